/-
  Books and texts drawn for the laws.
-/
import Derived.Test.YtcmajekdalcjeaaGreatGW174
import Derived.Test.YtcmajekdalcjeaaGreatGW154
import Derived.Test.YtcmajekdalcjeaaGreatW31
import Derived.Test.YtcmajekdalcjeaaGreatW189
import Derived.Deep.DeepCutAuto
namespace Go.Proofs.YtcmajekdalcjeaaGreat
open Go.RowKit
set_option linter.unusedVariables false
theorem entsAt_of_owns {w : World} {lo : Nat} {e : TypeId} {v : Value} {ys : List (ByteArray × ByteArray)} (h : w.ownsRow lo e 2 v ys.length (entCells ys)) (hf : ∀ e ∈ ys, e.1.size ≤ 20 ∧ e.2.size ≤ 20) : EntsAt w v ys := by
  have hm : ∀ (i : Nat) (x : ByteArray × ByteArray), ys[i]? = some x → x.1.size ≤ maxLen ∧ x.2.size ≤ maxLen := fun i x hx => by
    have := hf x (List.mem_of_getElem? hx)
    unfold maxLen
    omega
  rcases h.2 with ⟨rfl, h0⟩ | ⟨g, cap, cur, rfl, hbase, hb, h1, h2, h3, h4⟩
  · have hz : ys = [] := List.length_eq_zero_iff.1 h0
    subst hz
    exact ⟨none, 0, rfl, Nat.le_refl _, Nat.zero_le _, hm, fun hn => absurd rfl hn⟩
  · have hg : g < w.heap.size := (Array.getElem?_eq_some_iff.1 hb).1
    refine ⟨some ⟨g, 0, none⟩, cap, rfl, h1, h2, hm, fun _ => ⟨g, 0, rfl, hg, fun i x hx => ?_⟩⟩
    have hi : i < ys.length := (List.getElem?_eq_some_iff.1 hx).1
    obtain ⟨e0, e1⟩ := entCells_at ys i x hx
    have key : ∀ j u, j < 2 → (entCells ys)[i * 2 + j]? = some u → w.cell? ⟨g, 0 + i * 2 + j, none⟩ = some u := fun j u hj hu => by
      rw [cell_of_row w g _ cur _ _ hb]
      have e1 : (cur.toList.take (ys.length * 2))[i * 2 + j]? = some u := by rw [h4]; exact hu
      rw [List.getElem?_take_of_lt (by omega), Array.getElem?_toList] at e1
      rw [Nat.zero_add]
      exact e1
    exact ⟨key 0 _ (by omega) e0, key 1 _ (by omega) e1⟩
theorem affsAt_of_small {w : World} {lo : Nat} {e : TypeId} {v : Value} {ys : List Aff} (h : w.ownsRow lo e 5 v ys.length (affCells ys)) (hf : ∀ a ∈ ys, a.small) : AffsAt w v ys :=
  affsAt_of_owns h (fun i x hx => (hf x (List.mem_of_getElem? hx)).fits)
end Go.Proofs.YtcmajekdalcjeaaGreat
/-
  A word drawn, often of a book.
-/
namespace Go.Proofs.YtcmajekdalcjeaaGreat
open Go.RowKit
set_option linter.unusedVariables false
theorem wordsTo_size (xs : List Aff) (es : List (ByteArray × ByteArray)) : ∀ k, ∀ x ∈ wordsTo xs es k, x.size ≤ 12
  | 0 => fun x hx => by simp [wordsTo] at hx
  | k + 1 => fun x hx => by
    have ih := wordsTo_size xs es k x
    unfold wordsTo at hx
    rw [mem_puts] at hx
    rcases hx with hx | hx
    all_goals first
      | exact ih hx
      | (split at hx
         · exact (formsT_small xs _ _).2 x hx
         · cases hx)
set_option maxRecDepth 100000 in
set_option maxHeartbeats 1000000 in
theorem l13Of_any (w : World) (blk p lo : Nat) (b0 b1 : Option Addr) (c0 c1 : Nat) (xs : List Aff) (es : List (ByteArray × ByteArray)) (h : RdAt w blk p) (hp : p ≤ 500000) (hoa : w.ownsRow lo 71 5 (.slice b0 xs.length c0) xs.length (affCells xs)) (hoe : w.ownsRow lo 76 2 (.slice b1 es.length c1) es.length (entCells es)) (hlo : blk < lo) (hxs : ∀ a ∈ xs, a.small) (hes : ∀ e ∈ es, e.1.size ≤ 20 ∧ e.2.size ≤ 20) (he25 : es.length ≤ 25) :
    Calls Tryz.prog 19 #[.pointer (some ⟨blk, 0, none⟩), .agg #[.slice b0 xs.length c0, .slice b1 es.length c1]] w fun e w' => ∃ s, e = .returned (.string s) ∧ s.size ≤ 20 ∧ (∃ q, RdAt w' blk q ∧ q ≤ p + 15) ∧ Kept blk w w' := by
  have hlt := h.lt
  have HR : Hid (RdAt w blk p) := h
  have HOA : Hid (w.ownsRow lo 71 5 (.slice b0 xs.length c0) xs.length (affCells xs)) := hoa
  have HOE : Hid (w.ownsRow lo 76 2 (.slice b1 es.length c1) es.length (entCells es)) := hoe
  have HXS : Hid (∀ a ∈ xs, a.small) := hxs
  have HES : Hid (∀ e ∈ es, e.1.size ≤ 20 ∧ e.2.size ≤ 20) := hes
  clear h hoa hoe hxs hes
  go_enter Tryz.func19, Tryz.ntmps19
  go_wp2_with fail
  obtain ⟨w0, hw0⟩ : ∃ x, w.alloc (.cells #[.slice b0 xs.length c0, .slice b1 es.length c1] 26) = x := ⟨_, rfl⟩
  have HK0 : Hid (Kept blk w w0) := by rw [← hw0]; exact (Kept.refl blk w).alloc _
  have HR0 : Hid (RdAt w0 blk p) := by rw [← hw0]; exact HR.out.alloc _
  have HB0 : Hid (w0.heap[w.heap.size]? = some (.cells #[.slice b0 xs.length c0, .slice b1 es.length c1] 26 (0, 0))) := by show _ = _; rw [← hw0]; exact heap_alloc_last w _
  have hz0 : w.heap.size < w0.heap.size := by rw [← hw0]; simp
  rw [hw0]
  clear hw0
  refine (specBookOk_any w0 _ _ xs es (affsAt_of_small (owns_kept HOA.out HK0.out hlo) HXS.out) (entsAt_of_owns (owns_kept HOE.out HK0.out hlo) HES.out)).mono ?_
  rintro e w1 ⟨rfl, hb1⟩
  have HK1 : Hid (Kept blk w0 w1) := Kept.of_below hb1
  have HR1 : Hid (RdAt w1 blk p) := HR0.out.keep hb1
  clear hb1
  cases hbk : bookT xs es with
  | false =>
    go_wp2_with fail
    refine (l13AnyWord_any w1 blk p HR1.out (by omega)).mono ?_
    rintro e w2 ⟨s, rfl, hsd, ⟨q, hr2, hq⟩, hk2⟩
    have HR2 : Hid (RdAt w2 blk q) := hr2
    have HK2 : Hid (Kept blk w w2) := (HK0.out.trans HK1.out).trans hk2
    clear hr2 hk2
    go_wp2
    go_ret
    exact ⟨s, rfl, hsd, ⟨q, HR2.out, by omega⟩, HK2.out⟩
  | true =>
    go_wp2_with fail
    refine (pick_any w1 blk p 2 HR1.out (by omega) (by omega)).mono ?_
    rintro e w2 ⟨v, rfl, -, -, hr2, hk2⟩
    have HR2 : Hid (RdAt w2 blk (p + 1)) := hr2
    have HK2 : Hid (Kept blk w w2) := (HK0.out.trans HK1.out).trans hk2
    have HB2 : Hid (w2.heap[w.heap.size]? = some (.cells #[.slice b0 xs.length c0, .slice b1 es.length c1] 26 (0, 0))) := ((HK1.out.trans hk2).block _ hz0 (by omega)).trans HB0.out
    have x0 : w2.cell? ⟨w.heap.size, 0, none⟩ = some (.slice b0 xs.length c0) := by rw [cell_of_row _ _ 0 _ _ _ HB2.out]; rfl
    have x1 : w2.cell? ⟨w.heap.size, 1, none⟩ = some (.slice b1 es.length c1) := by rw [cell_of_row _ _ 1 _ _ _ HB2.out]; rfl
    clear hr2 hk2
    cases hv : (v == 0) with
    | false =>
      go_wp2_with fail
      refine (l13AnyWord_any w2 blk (p + 1) HR2.out (by omega)).mono ?_
      rintro e w3 ⟨s, rfl, hsd, ⟨q, hr3, hq⟩, hk3⟩
      have HR3 : Hid (RdAt w3 blk q) := hr3
      have HK3 : Hid (Kept blk w w3) := HK2.out.trans hk3
      clear hr3 hk3
      go_wp2
      go_ret
      exact ⟨s, rfl, hsd, ⟨q, HR3.out, by omega⟩, HK3.out⟩
    | true =>
      go_wp2_with fail
      refine (l2Words_any w2 _ _ xs es (affsAt_of_small (owns_kept HOA.out HK2.out hlo) HXS.out) (entsAt_of_owns (owns_kept HOE.out HK2.out hlo) HES.out) hbk).mono ?_
      rintro e w3 ⟨vw, rfl, ht3, hb3⟩
      obtain ⟨g, cp, hvw, -⟩ := id ht3
      subst hvw
      have hsl := wordsTo_len xs es es.length
      have hsz := wordsTo_size xs es es.length
      generalize wordsTo xs es es.length = ss at ht3 hsl hsz ⊢
      have HSZ : Hid (∀ x ∈ ss, x.size ≤ 12) := hsz
      clear hsz
      have HT3 : Hid (TextRow w3 (.slice (some ⟨g, 0, none⟩) ss.length cp) ss) := ht3
      have HR3 : Hid (RdAt w3 blk (p + 1)) := HR2.out.keep hb3
      have HK3 : Hid (Kept blk w w3) := HK2.out.trans (Kept.of_below hb3)
      clear ht3 hb3 x0 x1
      by_cases hl : (0 : Int) < (ss.length : Int)
      · go_wp2_with fail
        refine (pick_any w3 blk (p + 1) (ss.length : Int) HR3.out (by omega) (by omega)).mono ?_
        rintro e w4 ⟨i, rfl, hi0, hi1, hr4, hk4⟩
        obtain ⟨j, rfl⟩ := Int.eq_ofNat_of_zero_le hi0
        have hj : j < ss.length := by have := hi1 (by omega); omega
        obtain ⟨s, hs⟩ : ∃ s, ss[j]? = some s := ⟨_, List.getElem?_eq_getElem hj⟩
        have hs12 : s.size ≤ 20 := Nat.le_trans (HSZ.out s (List.mem_of_getElem? hs)) (by decide)
        have HR4 : Hid (RdAt w4 blk (p + 1 + 1)) := hr4
        have HK4 : Hid (Kept blk w w4) := HK3.out.trans hk4
        have d2 : w4.cell? ⟨g, 0 + j, none⟩ = some (.string s) := by
          obtain ⟨g', cp', hv', -, hcc, -⟩ := textRow_kept HT3.out HR3.out hk4
          simp only [Value.slice.injEq, Option.some.injEq, Addr.mk.injEq, and_true, true_and] at hv'
          obtain ⟨rfl, -⟩ := hv'
          rw [Nat.zero_add]
          exact hcc j s hs
        have d2' : w4.cell? ⟨g, j, none⟩ = some (.string s) := by rw [Nat.zero_add] at d2; exact d2
        have i0 : (0 : Int) ≤ (j : Int) := by omega
        have i1 : (j : Int) < (ss.length : Int) := by omega
        clear hr4 hk4 hi0 hi1 hs
        go_wp2
        go_ret
        exact ⟨s, rfl, hs12, ⟨_, HR4.out, by omega⟩, HK4.out⟩
      · go_wp2_with fail
        refine (l13AnyWord_any w3 blk (p + 1) HR3.out (by omega)).mono ?_
        rintro e w4 ⟨s, rfl, hsd, ⟨q, hr4, hq⟩, hk4⟩
        have HR4 : Hid (RdAt w4 blk q) := hr4
        have HK4 : Hid (Kept blk w w4) := HK3.out.trans hk4
        clear hr4 hk4
        go_wp2
        go_ret
        exact ⟨s, rfl, hsd, ⟨q, HR4.out, by omega⟩, HK4.out⟩
end Go.Proofs.YtcmajekdalcjeaaGreat
/-
  A book, and a text of its words, drawn.
-/
namespace Go.Proofs.YtcmajekdalcjeaaGreat
open Go.RowKit
set_option linter.unusedVariables false
set_option maxRecDepth 100000 in
set_option maxHeartbeats 4000000 in
theorem drawPartsOf_any (w : World) (a : Option Addr) (len cap : Nat) (zs : List Int) (h : IsRow .u8 w a len cap zs) :
    Calls Tryz.prog 5 #[.slice a len cap] w fun e w' => ∃ (va ve : Value) (xs : List Aff) (es : List (ByteArray × ByteArray)) (s : ByteArray), e = .returned (.tuple #[.agg #[va, ve], .string s]) ∧ AffsAt w' va xs ∧ EntsAt w' ve es ∧ s.size ≤ 60 ∧ xs.length ≤ 5 ∧ es.length ≤ 25 ∧ (∀ a ∈ xs, a.small) ∧ (∀ e ∈ es, e.1.size ≤ 20 ∧ e.2.size ≤ 20) ∧ Below w.heap.size w w' := by
  have HI : Hid (IsRow .u8 w a len cap zs) := h
  clear h
  go_enter Tryz.func5, Tryz.ntmps5
  go_wp2_with fail
  obtain ⟨w0, hw0⟩ : ∃ x, w.alloc (.cells #[.slice none 0 0, .slice none 0 0] 26) = x := ⟨_, rfl⟩
  have HI0 : IsRow .u8 w0 a len cap zs := by rw [← hw0]; exact HI.out.keep ((Below.refl w.heap.size w).alloc (Nat.le_refl _) _)
  have HR0 : Hid (w0.heap[w.heap.size]? = some (.cells #[.slice none 0 0, .slice none 0 0] 26 (0, 0))) := by show _ = _; rw [← hw0]; exact heap_alloc_last w _
  have HB0 : Hid (Below w.heap.size w w0) := by rw [← hw0]; exact (Below.refl w.heap.size w).alloc (Nat.le_refl _) _
  have hz0 : w0.heap.size = w.heap.size + 1 := by rw [← hw0]; simp
  rw [hw0]
  clear hw0
  refine (open_any w0 a len cap zs HI0).mono ?_
  rintro e w1 ⟨rfl, hr1, hb1⟩
  have HR1 : Hid (RdAt w1 (w.heap.size + 1) 0) := by rw [← hz0]; exact hr1
  have HB1 : Hid (Below w0.heap.size w0 w1) := hb1
  clear hr1 hb1 HI0
  go_wp2_with fail
  refine (l13AnyBook_any w1 (w.heap.size + 1) 0 HR1.out (by omega)).mono ?_
  rintro e w2 ⟨va, ve, xs, es, rfl, hoa, hoe, hx, he, hxs, hes, ⟨q2, hr2, hq2⟩, hk2⟩
  have hz1 : w.heap.size + 1 < w1.heap.size := HR1.out.lt
  have hz2 : w1.heap.size ≤ w2.heap.size := hk2.size
  obtain ⟨b0, c0, rfl⟩ := owns_form hoa
  obtain ⟨b1, c1, rfl⟩ := owns_form hoe
  have HXS : Hid (∀ a ∈ xs, a.small) := hxs
  have HES : Hid (∀ e ∈ es, e.1.size ≤ 20 ∧ e.2.size ≤ 20) := hes
  obtain ⟨w3, hw3⟩ : ∃ x, w2.alloc (.cells #[.slice b0 xs.length c0, .slice b1 es.length c1] 26) = x := ⟨_, rfl⟩
  have HKK : Hid (Kept (w.heap.size + 1) w1 w3) := by rw [← hw3]; exact hk2.alloc _
  have HOA : Hid (w3.ownsRow w1.heap.size 71 5 (.slice b0 xs.length c0) xs.length (affCells xs)) := by rw [← hw3]; exact owns_past hoa
  have HOE : Hid (w3.ownsRow w1.heap.size 76 2 (.slice b1 es.length c1) es.length (entCells es)) := by rw [← hw3]; exact owns_past hoe
  have HR3 : Hid (RdAt w3 (w.heap.size + 1) q2) := by rw [← hw3]; exact hr2.alloc _
  have hBx : w3.heap[w2.heap.size]? = some (.cells #[.slice b0 xs.length c0, .slice b1 es.length c1] 26 (0, 0)) := by rw [← hw3]; exact heap_alloc_last w2 _
  have HBx : Hid (w3.heap[w2.heap.size]? = some (.cells #[.slice b0 xs.length c0, .slice b1 es.length c1] 26 (0, 0))) := hBx
  have hz3 : w2.heap.size < w3.heap.size := by rw [← hw3]; simp
  have HRb : Hid (w3.heap[w.heap.size]? = some (.cells #[.slice none 0 0, .slice none 0 0] 26 (0, 0))) := (HKK.out.block w.heap.size (by omega) (by omega)).trans ((HB1.out.block w.heap.size (by omega)).trans HR0.out)
  have Kw3 : Hid (Kept (w.heap.size + 1) w1 w3) := HKK.out
  have RDw3 : Hid (RdAt w3 (w.heap.size + 1) q2) := HR3.out
  have OAw3 : Hid (w3.ownsRow w1.heap.size 71 5 (.slice b0 xs.length c0) xs.length (affCells xs)) := HOA.out
  have OEw3 : Hid (w3.ownsRow w1.heap.size 76 2 (.slice b1 es.length c1) es.length (entCells es)) := HOE.out
  have Nbxw3 : Hid (w3.heap[w2.heap.size]? = some (.cells #[.slice b0 xs.length c0, .slice b1 es.length c1] 26 (0, 0))) := HBx.out
  have Nbrw3 : Hid (w3.heap[w.heap.size]? = some (.cells #[.slice none 0 0, .slice none 0 0] 26 (0, 0))) := HRb.out
  have HE25 : Hid (es.length ≤ 25) := he
  have Zw3 : Hid (w2.heap.size < w3.heap.size) := hz3
  go_wp2_with fail
  try rw [hw3]
  clear hw3
  go_cut [6] (fun u wx => ∃ (s : ByteArray) (q : Nat), u = .string s ∧ s.size ≤ 40 ∧ RdAt wx (w.heap.size + 1) q ∧ q ≤ q2 + 30 ∧ wx.ownsRow w1.heap.size 71 5 (.slice b0 xs.length c0) xs.length (affCells xs) ∧ wx.ownsRow w1.heap.size 76 2 (.slice b1 es.length c1) es.length (entCells es) ∧ wx.heap[w2.heap.size]? = some (.cells #[.slice b0 xs.length c0, .slice b1 es.length c1] 26 (0, 0)) ∧ wx.heap[w.heap.size]? = some (.cells #[.slice none 0 0, .slice none 0 0] 26 (0, 0)) ∧ Kept (w.heap.size + 1) w1 wx)
  case first =>
    refine wp_region_held_drew (S := (fun w' => w'.cell? ⟨w2.heap.size, 0, none⟩ = some (.slice b0 xs.length c0) ∧ w'.cell? ⟨w2.heap.size, 1, none⟩ = some (.slice b1 es.length c1))) (by kernel_rfl) ?_ (fun hHeld => ?_)
    · exact ⟨by show w3.cell? ⟨w2.heap.size, 0, none⟩ = _; rw [cell_of_row _ _ 0 _ _ _ Nbxw3.out]; rfl, by show w3.cell? ⟨w2.heap.size, 1, none⟩ = _; rw [cell_of_row _ _ 1 _ _ _ Nbxw3.out]; rfl⟩
    refine tk 0 11 (.pointer (some ⟨w.heap.size + 1, 0, none⟩)) ?_
    simp only [Act.put, List.setIfInBounds_toArray, List.set_cons_zero, List.set_cons_succ]
    refine tk 1 12 (.agg #[.slice b0 xs.length c0, .slice b1 es.length c1]) ?_
    simp only [Act.put, List.setIfInBounds_toArray, List.set_cons_zero, List.set_cons_succ]
    refine tk 3 14 (.pointer (some ⟨w.heap.size + 1, 0, none⟩)) ?_
    simp only [Act.put, List.setIfInBounds_toArray, List.set_cons_zero, List.set_cons_succ]
    refine tk 4 15 (.agg #[.slice b0 xs.length c0, .slice b1 es.length c1]) ?_
    simp only [Act.put, List.setIfInBounds_toArray, List.set_cons_zero, List.set_cons_succ]
    obtain ⟨y0, hx⟩ : ∃ X, World.drew w3 = X := ⟨_, rfl⟩
    have Ky0 : Hid (Kept (w.heap.size + 1) w1 y0) := by show Kept _ _ _; rw [← hx]; exact Kw3.out.trans (Kept.of_below (Below.refl _ _).drew)
    have Zy0 : Hid (w3.heap.size ≤ y0.heap.size) := by show _ ≤ _; rw [← hx]; exact Nat.le_refl _
    have RDy0 : Hid (RdAt y0 (w.heap.size + 1) q2) := by have h9 := RDw3.out.keep (Below.refl _ _).drew; rw [hx] at h9; exact h9
    have OAy0 : Hid (y0.ownsRow w1.heap.size 71 5 (.slice b0 xs.length c0) xs.length (affCells xs)) := by have h9 := owns_below OAw3.out (Below.refl _ _).drew; rw [hx] at h9; exact h9
    have OEy0 : Hid (y0.ownsRow w1.heap.size 76 2 (.slice b1 es.length c1) es.length (entCells es)) := by have h9 := owns_below OEw3.out (Below.refl _ _).drew; rw [hx] at h9; exact h9
    have Nbxy0 : Hid (y0.heap[w2.heap.size]? = some (.cells #[.slice b0 xs.length c0, .slice b1 es.length c1] 26 (0, 0))) := by show _ = _; rw [← hx]; exact Nbxw3.out
    have Nbry0 : Hid (y0.heap[w.heap.size]? = some (.cells #[.slice none 0 0, .slice none 0 0] 26 (0, 0))) := by show _ = _; rw [← hx]; exact Nbrw3.out
    rw [hx]
    clear hx
    refine wpAnyH_ready (rs := [2]) (by kernel_rfl) (by simp) ?_
    refine AllReadyH.cons rfl (fun K hK => ?_) AllReadyH.nil
    go_simp
    refine (l13Of_any _ (w.heap.size + 1) q2 w1.heap.size b0 b1 c0 c1 xs es RDy0.out (by omega) OAy0.out OEy0.out (by omega) HXS.out HES.out HE25.out).mono ?_
    rintro e y1 ⟨sy1, rfl, hs, ⟨qy1, hr, hq⟩, hb⟩
    have HSy1 : Hid (sy1.size ≤ 20) := hs
    have HQy1 : Hid (qy1 ≤ q2 + 15) := hq
    clear hs hq
    have Zy1 : Hid (y0.heap.size ≤ y1.heap.size) := hb.size
    have Ky1 : Hid (Kept (w.heap.size + 1) w1 y1) := Ky0.out.trans hb
    have OAy1 : Hid (y1.ownsRow w1.heap.size 71 5 (.slice b0 xs.length c0) xs.length (affCells xs)) := owns_kept OAy0.out hb (by omega)
    have OEy1 : Hid (y1.ownsRow w1.heap.size 76 2 (.slice b1 es.length c1) es.length (entCells es)) := owns_kept OEy0.out hb (by omega)
    have Nbxy1 : Hid (y1.heap[w2.heap.size]? = some (.cells #[.slice b0 xs.length c0, .slice b1 es.length c1] 26 (0, 0))) := (hb.block _ (Array.getElem?_eq_some_iff.1 Nbxy0.out).1 (by first | omega | (have := HQbx.out; omega))).trans Nbxy0.out
    have Nbry1 : Hid (y1.heap[w.heap.size]? = some (.cells #[.slice none 0 0, .slice none 0 0] 26 (0, 0))) := (hb.block _ (Array.getElem?_eq_some_iff.1 Nbry0.out).1 (by first | omega | (have := HQbr.out; omega))).trans Nbry0.out
    have RDy1 : Hid (RdAt y1 (w.heap.size + 1) qy1) := hr
    clear hb
    refine hK.out _ _ ?_ (fun hHeld => ?_)
    · exact ⟨by show y1.cell? ⟨w2.heap.size, 0, none⟩ = _; rw [cell_of_row _ _ 0 _ _ _ Nbxy1.out]; rfl, by show y1.cell? ⟨w2.heap.size, 1, none⟩ = _; rw [cell_of_row _ _ 1 _ _ _ Nbxy1.out]; rfl⟩
    clear hK K
    try simp only [Act.put, List.setIfInBounds_toArray, List.set_cons_zero, List.set_cons_succ]
    refine wpAnyH_ready (rs := [5]) (by kernel_rfl) (by simp) ?_
    refine AllReadyH.cons rfl (fun K hK => ?_) AllReadyH.nil
    go_simp
    refine (l13Of_any _ (w.heap.size + 1) qy1 w1.heap.size b0 b1 c0 c1 xs es RDy1.out (by have h1 := HQy1.out; omega) OAy1.out OEy1.out (by omega) HXS.out HES.out HE25.out).mono ?_
    rintro e y2 ⟨sy2, rfl, hs, ⟨qy2, hr, hq⟩, hb⟩
    have HSy2 : Hid (sy2.size ≤ 20) := hs
    have HQy2 : Hid (qy2 ≤ qy1 + 15) := hq
    clear hs hq
    obtain ⟨SS, hSS⟩ : ∃ T, sy1 ++ sy2 = T := ⟨_, rfl⟩
    have HSS : Hid (SS.size ≤ 40) := by have h1 := HSy1.out; have h2 := HSy2.out; show _ ≤ _; rw [← hSS, ByteArray.size_append]; omega
    have r1 : ∀ w : World, (Op.stringOp .add sy1 sy2).run Tryz.prog w = .ok (.string SS) w := fun w => by rw [run_string_add_sum w _ _ (by have h1 := HSy1.out; have h2 := HSy2.out; omega), hSS]
    clear hSS
    have Zy2 : Hid (y1.heap.size ≤ y2.heap.size) := hb.size
    have Ky2 : Hid (Kept (w.heap.size + 1) w1 y2) := Ky1.out.trans hb
    have OAy2 : Hid (y2.ownsRow w1.heap.size 71 5 (.slice b0 xs.length c0) xs.length (affCells xs)) := owns_kept OAy1.out hb (by omega)
    have OEy2 : Hid (y2.ownsRow w1.heap.size 76 2 (.slice b1 es.length c1) es.length (entCells es)) := owns_kept OEy1.out hb (by omega)
    have Nbxy2 : Hid (y2.heap[w2.heap.size]? = some (.cells #[.slice b0 xs.length c0, .slice b1 es.length c1] 26 (0, 0))) := (hb.block _ (Array.getElem?_eq_some_iff.1 Nbxy1.out).1 (by first | omega | (have := HQbx.out; omega))).trans Nbxy1.out
    have Nbry2 : Hid (y2.heap[w.heap.size]? = some (.cells #[.slice none 0 0, .slice none 0 0] 26 (0, 0))) := (hb.block _ (Array.getElem?_eq_some_iff.1 Nbry1.out).1 (by first | omega | (have := HQbr.out; omega))).trans Nbry1.out
    have RDy2 : Hid (RdAt y2 (w.heap.size + 1) qy2) := hr
    clear hb
    refine hK.out _ _ ?_ (fun hHeld => ?_)
    · exact ⟨by show y2.cell? ⟨w2.heap.size, 0, none⟩ = _; rw [cell_of_row _ _ 0 _ _ _ Nbxy2.out]; rfl, by show y2.cell? ⟨w2.heap.size, 1, none⟩ = _; rw [cell_of_row _ _ 1 _ _ _ Nbxy2.out]; rfl⟩
    clear hK K
    try simp only [Act.put, List.setIfInBounds_toArray, List.set_cons_zero, List.set_cons_succ]
    refine tk 6 17 (.string SS) ?_
    simp only [Act.put, List.setIfInBounds_toArray, List.set_cons_zero, List.set_cons_succ]
    refine tk 7 6 (.string SS) ?_
    simp only [Act.put, List.setIfInBounds_toArray, List.set_cons_zero, List.set_cons_succ]
    refine wpAnyH_done (by kernel_rfl) ?_ _
    go_wp2
    go_meet
    case rel =>
      have h1 := HQy1.out
      have h2 := HQy2.out
      exact ⟨_, _, rfl, HSS.out, RDy2.out, by omega, OAy2.out, OEy2.out, Nbxy2.out, Nbry2.out, Ky2.out⟩
  case rest =>
    obtain ⟨w4, hw4⟩ : ∃ x, x = wc := ⟨_, rfl⟩
    subst hw4
    obtain ⟨s, q4, rfl, hs, hr, hq, hoa, hoe, hbx, hbr, hk⟩ := hcut
    have R4 : Hid (RdAt w4 (w.heap.size + 1) q4) := hr
    have OAw4 : Hid (w4.ownsRow w1.heap.size 71 5 (.slice b0 xs.length c0) xs.length (affCells xs)) := hoa
    have OEw4 : Hid (w4.ownsRow w1.heap.size 76 2 (.slice b1 es.length c1) es.length (entCells es)) := hoe
    have Nbxw4 : Hid (w4.heap[w2.heap.size]? = some (.cells #[.slice b0 xs.length c0, .slice b1 es.length c1] 26 (0, 0))) := hbx
    have Nbrw4 : Hid (w4.heap[w.heap.size]? = some (.cells #[.slice none 0 0, .slice none 0 0] 26 (0, 0))) := hbr
    have Kw4 : Hid (Kept (w.heap.size + 1) w1 w4) := hk
    have Zw4 : Hid (w2.heap.size < w4.heap.size) := (Array.getElem?_eq_some_iff.1 Nbxw4.out).1
    have x0 : w4.cell? ⟨w2.heap.size, 0, none⟩ = some (.slice b0 xs.length c0) := by rw [cell_of_row _ _ 0 _ _ _ Nbxw4.out]; rfl
    have x1 : w4.cell? ⟨w2.heap.size, 1, none⟩ = some (.slice b1 es.length c1) := by rw [cell_of_row _ _ 1 _ _ _ Nbxw4.out]; rfl
    clear hr hoa hoe hbx hbr hk
    go_wp2_with fail
    refine (pick_any w4 (w.heap.size + 1) q4 3 R4.out (by omega) (by omega)).mono ?_
    rintro e w5 ⟨v, rfl, -, -, hr5, hk5⟩
    have R5 : Hid (RdAt w5 (w.heap.size + 1) (q4 + 1)) := hr5
    have OAw5 : Hid (w5.ownsRow w1.heap.size 71 5 (.slice b0 xs.length c0) xs.length (affCells xs)) := owns_kept OAw4.out hk5 (by omega)
    have OEw5 : Hid (w5.ownsRow w1.heap.size 76 2 (.slice b1 es.length c1) es.length (entCells es)) := owns_kept OEw4.out hk5 (by omega)
    have Nbxw5 : Hid (w5.heap[w2.heap.size]? = some (.cells #[.slice b0 xs.length c0, .slice b1 es.length c1] 26 (0, 0))) := (hk5.block _ Zw4.out (by omega)).trans Nbxw4.out
    have Nbrw5 : Hid (w5.heap[w.heap.size]? = some (.cells #[.slice none 0 0, .slice none 0 0] 26 (0, 0))) := (hk5.block _ (by have := Zw4.out; omega) (by omega)).trans Nbrw4.out
    have Kw5 : Hid (Kept (w.heap.size + 1) w1 w5) := Kw4.out.trans hk5
    have Zw5 : Hid (w2.heap.size < w5.heap.size) := (Array.getElem?_eq_some_iff.1 Nbxw5.out).1
    clear hr5 hk5 x0 x1
    have x0 : w5.cell? ⟨w2.heap.size, 0, none⟩ = some (.slice b0 xs.length c0) := by rw [cell_of_row _ _ 0 _ _ _ Nbxw5.out]; rfl
    have x1 : w5.cell? ⟨w2.heap.size, 1, none⟩ = some (.slice b1 es.length c1) := by rw [cell_of_row _ _ 1 _ _ _ Nbxw5.out]; rfl
    cases hv : (v == 0) with
    | true =>
      go_wp2_with fail
      refine (l13Of_any w5 (w.heap.size + 1) (q4 + 1) w1.heap.size b0 b1 c0 c1 xs es R5.out (by omega) OAw5.out OEw5.out (by omega) HXS.out HES.out HE25.out).mono ?_
      rintro e w6 ⟨t, rfl, ht, ⟨q6, hr6, hq6⟩, hk6⟩
      have R6 : Hid (RdAt w6 (w.heap.size + 1) q6) := hr6
      have OAw6 : Hid (w6.ownsRow w1.heap.size 71 5 (.slice b0 xs.length c0) xs.length (affCells xs)) := owns_kept OAw5.out hk6 (by omega)
      have OEw6 : Hid (w6.ownsRow w1.heap.size 76 2 (.slice b1 es.length c1) es.length (entCells es)) := owns_kept OEw5.out hk6 (by omega)
      have Nbxw6 : Hid (w6.heap[w2.heap.size]? = some (.cells #[.slice b0 xs.length c0, .slice b1 es.length c1] 26 (0, 0))) := (hk6.block _ Zw5.out (by omega)).trans Nbxw5.out
      have Nbrw6 : Hid (w6.heap[w.heap.size]? = some (.cells #[.slice none 0 0, .slice none 0 0] 26 (0, 0))) := (hk6.block _ (by have := Zw5.out; omega) (by omega)).trans Nbrw5.out
      have Kw6 : Hid (Kept (w.heap.size + 1) w1 w6) := Kw5.out.trans hk6
      have Zw6 : Hid (w2.heap.size < w6.heap.size) := (Array.getElem?_eq_some_iff.1 Nbxw6.out).1
      clear hr6 hk6 x0 x1
      obtain ⟨S6, hS6⟩ : ∃ T, s ++ t = T := ⟨_, rfl⟩
      have hs6 : S6.size ≤ 60 := by rw [← hS6, ByteArray.size_append]; omega
      have r6 : ∀ w : World, (Op.stringOp .add s t).run Tryz.prog w = .ok (.string S6) w := fun w => by rw [run_string_add_sum w _ _ (by omega), hS6]
      clear hS6
      have x0 : w6.cell? ⟨w2.heap.size, 0, none⟩ = some (.slice b0 xs.length c0) := by rw [cell_of_row _ _ 0 _ _ _ Nbxw6.out]; rfl
      have x1 : w6.cell? ⟨w2.heap.size, 1, none⟩ = some (.slice b1 es.length c1) := by rw [cell_of_row _ _ 1 _ _ _ Nbxw6.out]; rfl
      by_cases hl : (12 : Int) < ((S6).size : Int)
      · skip
        have hl2 : ¬ ((S6).size : Int) ≤ 12 := by omega
        have h12 : (12 : Int) ≤ ((S6).size : Int) := by omega
        go_wp2_with fail
        refine (pick_any w6 (w.heap.size + 1) q6 4 R6.out (by omega) (by omega)).mono ?_
        rintro e w9 ⟨v9, rfl, hv9, -, hr9, hk9⟩
        have OAw9 : Hid (w9.ownsRow w1.heap.size 71 5 (.slice b0 xs.length c0) xs.length (affCells xs)) := owns_kept OAw6.out hk9 (by omega)
        have OEw9 : Hid (w9.ownsRow w1.heap.size 76 2 (.slice b1 es.length c1) es.length (entCells es)) := owns_kept OEw6.out hk9 (by omega)
        have Nbxw9 : Hid (w9.heap[w2.heap.size]? = some (.cells #[.slice b0 xs.length c0, .slice b1 es.length c1] 26 (0, 0))) := (hk9.block _ Zw6.out (by omega)).trans Nbxw6.out
        have Nbrw9 : Hid (w9.heap[w.heap.size]? = some (.cells #[.slice none 0 0, .slice none 0 0] 26 (0, 0))) := (hk9.block _ (by have := Zw6.out; omega) (by omega)).trans Nbrw6.out
        have Kw9 : Hid (Kept (w.heap.size + 1) w1 w9) := Kw6.out.trans hk9
        have Zw9 : Hid (w2.heap.size < w9.heap.size) := (Array.getElem?_eq_some_iff.1 Nbxw9.out).1
        clear hr9 hk9 x0 x1
        have x0 : w9.cell? ⟨w2.heap.size, 0, none⟩ = some (.slice b0 xs.length c0) := by rw [cell_of_row _ _ 0 _ _ _ Nbxw9.out]; rfl
        have x1 : w9.cell? ⟨w2.heap.size, 1, none⟩ = some (.slice b1 es.length c1) := by rw [cell_of_row _ _ 1 _ _ _ Nbxw9.out]; rfl
        by_cases h9 : (0 : Int) < v9
        · skip
          obtain ⟨T9, hT9⟩ : ∃ T, (S6).extract 0 12 = T := ⟨_, rfl⟩
          have ht9 : T9.size ≤ 60 := by rw [← hT9]; simp [ByteArray.size_extract]; omega
          have HT9 : Hid ((S6).extract 0 12 = T9) := hT9
          clear hT9
          have r0 : w9.cell? ⟨w.heap.size, 0, none⟩ = some (.slice none 0 0) := by rw [cell_of_row _ _ 0 _ _ _ Nbrw9.out]; rfl
          have r1 : w9.cell? ⟨w.heap.size, 1, none⟩ = some (.slice none 0 0) := by rw [cell_of_row _ _ 1 _ _ _ Nbrw9.out]; rfl
          have u0 := Go.Joins.unfrozen_of_block Nbrw9.out 0
          have u1 := Go.Joins.unfrozen_of_block Nbrw9.out 1
          go_wp2_with fail
          try rw [HT9.out]
          refine bodyPost_ret (v := .tuple #[.agg #[.slice b0 xs.length c0, .slice b1 es.length c1], .string (T9)]) (by simp [results, Tryz.results5, go_sem, r0, r1]) rfl ⟨_, _, xs, es, T9, rfl, ?_, ?_, ht9, hx, he, (by first | exact HXS.out | exact fun a h => HXS.out a h), (by first | exact HES.out | exact fun a b h => HES.out (a, b) h), ((HB0.out.trans ((Kw9.out.below HB1.out (by omega)).mono (by omega))).setCell (Nat.le_refl _) _).setCell (Nat.le_refl _) _⟩
          · exact affsAt_of_small (owns_set (owns_set OAw9.out _ _ _ (by omega)) _ _ _ (by omega)) HXS.out
          · exact entsAt_of_owns (owns_set (owns_set OEw9.out _ _ _ (by omega)) _ _ _ (by omega)) HES.out
        · skip
          have r0 : w9.cell? ⟨w.heap.size, 0, none⟩ = some (.slice none 0 0) := by rw [cell_of_row _ _ 0 _ _ _ Nbrw9.out]; rfl
          have r1 : w9.cell? ⟨w.heap.size, 1, none⟩ = some (.slice none 0 0) := by rw [cell_of_row _ _ 1 _ _ _ Nbrw9.out]; rfl
          have u0 := Go.Joins.unfrozen_of_block Nbrw9.out 0
          have u1 := Go.Joins.unfrozen_of_block Nbrw9.out 1
          go_wp2
          refine bodyPost_ret (v := .tuple #[.agg #[.slice b0 xs.length c0, .slice b1 es.length c1], .string (S6)]) (by simp [results, Tryz.results5, go_sem, r0, r1]) rfl ⟨_, _, xs, es, S6, rfl, ?_, ?_, hs6, hx, he, (by first | exact HXS.out | exact fun a h => HXS.out a h), (by first | exact HES.out | exact fun a b h => HES.out (a, b) h), ((HB0.out.trans ((Kw9.out.below HB1.out (by omega)).mono (by omega))).setCell (Nat.le_refl _) _).setCell (Nat.le_refl _) _⟩
          · exact affsAt_of_small (owns_set (owns_set OAw9.out _ _ _ (by omega)) _ _ _ (by omega)) HXS.out
          · exact entsAt_of_owns (owns_set (owns_set OEw9.out _ _ _ (by omega)) _ _ _ (by omega)) HES.out
      · skip
        have r0 : w6.cell? ⟨w.heap.size, 0, none⟩ = some (.slice none 0 0) := by rw [cell_of_row _ _ 0 _ _ _ Nbrw6.out]; rfl
        have r1 : w6.cell? ⟨w.heap.size, 1, none⟩ = some (.slice none 0 0) := by rw [cell_of_row _ _ 1 _ _ _ Nbrw6.out]; rfl
        have u0 := Go.Joins.unfrozen_of_block Nbrw6.out 0
        have u1 := Go.Joins.unfrozen_of_block Nbrw6.out 1
        go_wp2
        refine bodyPost_ret (v := .tuple #[.agg #[.slice b0 xs.length c0, .slice b1 es.length c1], .string (S6)]) (by simp [results, Tryz.results5, go_sem, r0, r1]) rfl ⟨_, _, xs, es, S6, rfl, ?_, ?_, hs6, hx, he, (by first | exact HXS.out | exact fun a h => HXS.out a h), (by first | exact HES.out | exact fun a b h => HES.out (a, b) h), ((HB0.out.trans ((Kw6.out.below HB1.out (by omega)).mono (by omega))).setCell (Nat.le_refl _) _).setCell (Nat.le_refl _) _⟩
        · exact affsAt_of_small (owns_set (owns_set OAw6.out _ _ _ (by omega)) _ _ _ (by omega)) HXS.out
        · exact entsAt_of_owns (owns_set (owns_set OEw6.out _ _ _ (by omega)) _ _ _ (by omega)) HES.out
    | false =>
      by_cases hl : (12 : Int) < ((s).size : Int)
      · skip
        have hl2 : ¬ ((s).size : Int) ≤ 12 := by omega
        have h12 : (12 : Int) ≤ ((s).size : Int) := by omega
        go_wp2_with fail
        refine (pick_any w5 (w.heap.size + 1) (q4 + 1) 4 R5.out (by omega) (by omega)).mono ?_
        rintro e w9 ⟨v9, rfl, hv9, -, hr9, hk9⟩
        have OAw9 : Hid (w9.ownsRow w1.heap.size 71 5 (.slice b0 xs.length c0) xs.length (affCells xs)) := owns_kept OAw5.out hk9 (by omega)
        have OEw9 : Hid (w9.ownsRow w1.heap.size 76 2 (.slice b1 es.length c1) es.length (entCells es)) := owns_kept OEw5.out hk9 (by omega)
        have Nbxw9 : Hid (w9.heap[w2.heap.size]? = some (.cells #[.slice b0 xs.length c0, .slice b1 es.length c1] 26 (0, 0))) := (hk9.block _ Zw5.out (by omega)).trans Nbxw5.out
        have Nbrw9 : Hid (w9.heap[w.heap.size]? = some (.cells #[.slice none 0 0, .slice none 0 0] 26 (0, 0))) := (hk9.block _ (by have := Zw5.out; omega) (by omega)).trans Nbrw5.out
        have Kw9 : Hid (Kept (w.heap.size + 1) w1 w9) := Kw5.out.trans hk9
        have Zw9 : Hid (w2.heap.size < w9.heap.size) := (Array.getElem?_eq_some_iff.1 Nbxw9.out).1
        clear hr9 hk9 x0 x1
        have x0 : w9.cell? ⟨w2.heap.size, 0, none⟩ = some (.slice b0 xs.length c0) := by rw [cell_of_row _ _ 0 _ _ _ Nbxw9.out]; rfl
        have x1 : w9.cell? ⟨w2.heap.size, 1, none⟩ = some (.slice b1 es.length c1) := by rw [cell_of_row _ _ 1 _ _ _ Nbxw9.out]; rfl
        by_cases h9 : (0 : Int) < v9
        · skip
          obtain ⟨T9, hT9⟩ : ∃ T, (s).extract 0 12 = T := ⟨_, rfl⟩
          have ht9 : T9.size ≤ 60 := by rw [← hT9]; simp [ByteArray.size_extract]; omega
          have HT9 : Hid ((s).extract 0 12 = T9) := hT9
          clear hT9
          have r0 : w9.cell? ⟨w.heap.size, 0, none⟩ = some (.slice none 0 0) := by rw [cell_of_row _ _ 0 _ _ _ Nbrw9.out]; rfl
          have r1 : w9.cell? ⟨w.heap.size, 1, none⟩ = some (.slice none 0 0) := by rw [cell_of_row _ _ 1 _ _ _ Nbrw9.out]; rfl
          have u0 := Go.Joins.unfrozen_of_block Nbrw9.out 0
          have u1 := Go.Joins.unfrozen_of_block Nbrw9.out 1
          go_wp2_with fail
          try rw [HT9.out]
          refine bodyPost_ret (v := .tuple #[.agg #[.slice b0 xs.length c0, .slice b1 es.length c1], .string (T9)]) (by simp [results, Tryz.results5, go_sem, r0, r1]) rfl ⟨_, _, xs, es, T9, rfl, ?_, ?_, ht9, hx, he, (by first | exact HXS.out | exact fun a h => HXS.out a h), (by first | exact HES.out | exact fun a b h => HES.out (a, b) h), ((HB0.out.trans ((Kw9.out.below HB1.out (by omega)).mono (by omega))).setCell (Nat.le_refl _) _).setCell (Nat.le_refl _) _⟩
          · exact affsAt_of_small (owns_set (owns_set OAw9.out _ _ _ (by omega)) _ _ _ (by omega)) HXS.out
          · exact entsAt_of_owns (owns_set (owns_set OEw9.out _ _ _ (by omega)) _ _ _ (by omega)) HES.out
        · skip
          have r0 : w9.cell? ⟨w.heap.size, 0, none⟩ = some (.slice none 0 0) := by rw [cell_of_row _ _ 0 _ _ _ Nbrw9.out]; rfl
          have r1 : w9.cell? ⟨w.heap.size, 1, none⟩ = some (.slice none 0 0) := by rw [cell_of_row _ _ 1 _ _ _ Nbrw9.out]; rfl
          have u0 := Go.Joins.unfrozen_of_block Nbrw9.out 0
          have u1 := Go.Joins.unfrozen_of_block Nbrw9.out 1
          go_wp2
          refine bodyPost_ret (v := .tuple #[.agg #[.slice b0 xs.length c0, .slice b1 es.length c1], .string (s)]) (by simp [results, Tryz.results5, go_sem, r0, r1]) rfl ⟨_, _, xs, es, s, rfl, ?_, ?_, (by omega), hx, he, (by first | exact HXS.out | exact fun a h => HXS.out a h), (by first | exact HES.out | exact fun a b h => HES.out (a, b) h), ((HB0.out.trans ((Kw9.out.below HB1.out (by omega)).mono (by omega))).setCell (Nat.le_refl _) _).setCell (Nat.le_refl _) _⟩
          · exact affsAt_of_small (owns_set (owns_set OAw9.out _ _ _ (by omega)) _ _ _ (by omega)) HXS.out
          · exact entsAt_of_owns (owns_set (owns_set OEw9.out _ _ _ (by omega)) _ _ _ (by omega)) HES.out
      · skip
        have r0 : w5.cell? ⟨w.heap.size, 0, none⟩ = some (.slice none 0 0) := by rw [cell_of_row _ _ 0 _ _ _ Nbrw5.out]; rfl
        have r1 : w5.cell? ⟨w.heap.size, 1, none⟩ = some (.slice none 0 0) := by rw [cell_of_row _ _ 1 _ _ _ Nbrw5.out]; rfl
        have u0 := Go.Joins.unfrozen_of_block Nbrw5.out 0
        have u1 := Go.Joins.unfrozen_of_block Nbrw5.out 1
        go_wp2
        refine bodyPost_ret (v := .tuple #[.agg #[.slice b0 xs.length c0, .slice b1 es.length c1], .string (s)]) (by simp [results, Tryz.results5, go_sem, r0, r1]) rfl ⟨_, _, xs, es, s, rfl, ?_, ?_, (by omega), hx, he, (by first | exact HXS.out | exact fun a h => HXS.out a h), (by first | exact HES.out | exact fun a b h => HES.out (a, b) h), ((HB0.out.trans ((Kw5.out.below HB1.out (by omega)).mono (by omega))).setCell (Nat.le_refl _) _).setCell (Nat.le_refl _) _⟩
        · exact affsAt_of_small (owns_set (owns_set OAw5.out _ _ _ (by omega)) _ _ _ (by omega)) HXS.out
        · exact entsAt_of_owns (owns_set (owns_set OEw5.out _ _ _ (by omega)) _ _ _ (by omega)) HES.out
end Go.Proofs.YtcmajekdalcjeaaGreat
