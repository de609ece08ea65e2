/-
  Drawn books, any.
-/
import Derived.Test.YthikcililececaaW173
import Derived.Test.YthikcililececaaW30
namespace Go.Proofs.Ythikcililececaa
open Go.RowKit
set_option linter.unusedVariables false
theorem owns_block_ne {w : World} {lo B : Nat} {e t : TypeId} {s n : Nat} {v : Value} {xs : List Value} {bs : Array Value} {fz : Nat × Nat} (h : w.ownsRow lo e s v n xs) (hB : w.heap[B]? = some (.cells bs t fz)) (ht : e ≠ t) : some B ≠ v.ownBlock := by
  rcases h.2 with ⟨rfl, _⟩ | ⟨g, cap, cur, rfl, hg, h2, _⟩
  · simp [Value.ownBlock]
  · intro e1
    have e2 : B = g := by simpa [Value.ownBlock] using e1
    rw [← e2, hB] at h2
    simp at h2
    exact ht h2.2.1.symm
theorem owns_apart {w w' : World} {lo lo2 : Nat} {e e2 : TypeId} {s n s2 n2 : Nat} {v v2 : Value} {xs xs2 : List Value} (h : w.ownsRow lo e s v n xs) (h2 : w.ownsRow lo2 e2 s2 v2 n2 xs2) (ht : e2 ≠ e) (hg : w.grownBy w' v2.ownBlock) : w'.ownsRow lo e s v n xs :=
  h.kept hg (by
    rcases h.2 with ⟨rfl, _⟩ | ⟨g, cap, cur, rfl, hg', h3, _⟩
    · exact .inl rfl
    · right
      exact owns_block_ne h2 h3 ht)
theorem owns_set2 {w : World} {lo B : Nat} {e t : TypeId} {s n : Nat} {v : Value} {xs : List Value} {bs : Array Value} {fz : Nat × Nat} (h : w.ownsRow lo e s v n xs) (hB : w.heap[B]? = some (.cells bs t fz)) (ht : e ≠ t) (o : Nat) (u : Value) : (w.setCell ⟨B, o, none⟩ u).ownsRow lo e s v n xs :=
  h.kept (grown_set w B o u) (.inr (fun e1 => owns_block_ne h hB ht e1.symm))
theorem set_box0 {w : World} {B : Nat} {t : TypeId} {a b : Value} (h : w.heap[B]? = some (.cells #[a, b] t (0, 0))) (v : Value) : (w.setCell ⟨B, 0, none⟩ v).heap[B]? = some (.cells #[v, b] t (0, 0)) := by
  have hlt := lt_of_block h
  unfold World.setCell
  rw [Array.getElem?_modify]
  simp [h]
theorem owns_poke {w : World} {lo g n cap : Nat} {e : TypeId} {s : Nat} {xs : List Value} (h : w.ownsRow lo e s (.slice (some ⟨g, 0, none⟩) n cap) n xs) (i : Nat) (u : Value) (hi : i < xs.length) : (w.setCell ⟨g, i, none⟩ u).ownsRow lo e s (.slice (some ⟨g, 0, none⟩) n cap) n (xs.set i u) := by
  refine ⟨by rw [List.length_set]; exact h.1, ?_⟩
  rcases h.2 with ⟨h0, _⟩ | ⟨g', cap', cur, hv, hg, h3, h4, h5, h6, h7⟩
  · cases h0
  · simp only [Value.slice.injEq, Option.some.injEq, Addr.mk.injEq, and_true, true_and] at hv
    obtain ⟨rfl, rfl⟩ := hv
    refine .inr ⟨g, cap, cur.setIfInBounds i u, rfl, hg, ?_, h4, h5, by simpa using h6, ?_⟩
    · have hlt := lt_of_block h3
      unfold World.setCell
      rw [Array.getElem?_modify]
      simp [h3]
    · rw [Array.toList_setIfInBounds, List.take_set, h7]
theorem ents_head {w : World} {lo : Nat} {v : Value} {s f : ByteArray} {es es' : List (ByteArray × ByteArray)} (h : w.ownsRow lo 25 2 v es'.length (entCells es')) (he : es' = (s, f) :: es) : ∃ g cap cs, v = .slice (some ⟨g, 0, none⟩) es'.length cap ∧ lo ≤ g ∧ w.heap[g]? = some (.cells cs 25 (0, 0)) ∧ cs[0]? = some (.string s) := by
  subst he
  rcases h.2 with ⟨_, h0⟩ | ⟨g, cap, cur, hv, hg, h3, h4, h5, h6, h7⟩
  · simp at h0
  · refine ⟨g, cap, cur, hv, hg, h3, ?_⟩
    have h8 : (cur.toList.take (((s, f) :: es).length * 2))[0]? = some (.string s) := by rw [h7]; simp [entCells]
    rw [List.getElem?_take] at h8
    split at h8
    · simpa using h8
    · cases h8
theorem ents_poke {w : World} {lo g cap : Nat} {s f : ByteArray} {es es' : List (ByteArray × ByteArray)} (h : w.ownsRow lo 25 2 (.slice (some ⟨g, 0, none⟩) es'.length cap) es'.length (entCells es')) (he : es' = (s, f) :: es) (u : ByteArray) : (w.setCell ⟨g, 0, none⟩ (.string u)).ownsRow lo 25 2 (.slice (some ⟨g, 0, none⟩) es'.length cap) ((u, f) :: es).length (entCells ((u, f) :: es)) := by
  have h1 := owns_poke h 0 (.string u) (by subst he; simp [entCells])
  subst he
  simpa [entCells] using h1
set_option maxRecDepth 100000 in
set_option maxHeartbeats 4000000 in
theorem l13AnyBook_any (w : World) (blk p : Nat) (h : RdAt w blk p) (hp : p ≤ 600000) :
    Calls Try.prog 23 #[.pointer (some ⟨blk, 0, none⟩)] w fun e w' => ∃ (va ve : Value) (xs : List Aff) (es : List (ByteArray × ByteArray)), e = .returned (.agg #[va, ve]) ∧ w'.ownsRow w.heap.size 34 5 va xs.length (affCells xs) ∧ w'.ownsRow w.heap.size 25 2 ve es.length (entCells es) ∧ xs.length ≤ 5 ∧ es.length ≤ 25 ∧ (∀ a ∈ xs, a.small) ∧ (∀ e ∈ es, e.1.size ≤ 20 ∧ e.2.size ≤ 20) ∧ (∃ q, RdAt w' blk q ∧ q ≤ p + 250) ∧ Kept blk w w' := by
  have hlt := h.lt
  have HR : Hid (RdAt w blk p) := h
  clear h
  obtain ⟨i4, hi4, hz4, hs4, hb4⟩ := info_parts info_ent173
  obtain ⟨i3, hi3, hz3, hs3, hb3⟩ := info_parts info_aff172
  go_enter Try.func23, Try.ntmps23
  go_wp2_with fail
  refine (l13Book_any _ blk p (HR.out.alloc _) (by omega)).mono ?_
  rintro e wB ⟨va, ve, xs, es, rfl, hoa, hoe, hx4, he24, hxs, hes, ⟨qa, hra, hqa⟩, hka⟩
  obtain ⟨b0, c0, rfl⟩ := owns_form hoa
  obtain ⟨b1, c1, rfl⟩ := owns_form hoe
  have HXS : Hid (∀ a ∈ xs, a.small) := hxs
  have HES : Hid (∀ e ∈ es, e.1.size ≤ 20 ∧ e.2.size ≤ 20) := hes
  have HKA : Hid (Kept blk w wB) := ((Kept.refl blk w).alloc _).trans hka
  have HOA1 : Hid (wB.ownsRow (w.heap.size + 1) 34 5 (.slice b0 xs.length c0) xs.length (affCells xs)) := owns_lower hoa (by simp)
  have HOE1 : Hid (wB.ownsRow (w.heap.size + 1) 25 2 (.slice b1 es.length c1) es.length (entCells es)) := owns_lower hoe (by simp)
  have hRb : wB.heap[w.heap.size]? = some (.cells #[.slice none 0 0, .slice none 0 0] 40 (0, 0)) := (hka.block w.heap.size (by simp) (by omega)).trans (heap_alloc_last w _)
  have hzB : w.heap.size < wB.heap.size := by have := hka.size; simp at this; omega
  have HRA : Hid (RdAt wB blk qa) := hra
  obtain ⟨w3, hw3⟩ : ∃ w3, wB.alloc (.cells #[.slice b0 xs.length c0, .slice b1 es.length c1] 40) = w3 := ⟨_, rfl⟩
  have HR3 : Hid (RdAt w3 blk qa) := by rw [← hw3]; exact HRA.out.alloc _
  have HK3 : Hid (Kept blk w w3) := by rw [← hw3]; exact HKA.out.alloc _
  have HOA3 : Hid (w3.ownsRow (w.heap.size + 1) 34 5 (.slice b0 xs.length c0) xs.length (affCells xs)) := by rw [← hw3]; exact HOA1.out.alloc _
  have HOE3 : Hid (w3.ownsRow (w.heap.size + 1) 25 2 (.slice b1 es.length c1) es.length (entCells es)) := by rw [← hw3]; exact HOE1.out.alloc _
  have HBX3 : Hid (w3.heap[wB.heap.size]? = some (.cells #[.slice b0 xs.length c0, .slice b1 es.length c1] 40 (0, 0))) := by show _ = _; rw [← hw3]; exact heap_alloc_last wB _
  have HRB3 : Hid (w3.heap[w.heap.size]? = some (.cells #[.slice none 0 0, .slice none 0 0] 40 (0, 0))) := by show _ = _; rw [← hw3]; exact box_past hRb
  have hz3' : wB.heap.size < w3.heap.size := by rw [← hw3]; simp
  clear hoa hoe hxs hes hka hra hRb HKA HOA1 HOE1 HRA
  go_wp2_with fail
  clear hw3
  refine (pick_any _ blk qa 16 HR3.out (by omega) (by omega)).mono ?_
  rintro e w4 ⟨v, rfl, hv0, hv1, hr4, hk4⟩
  have HR4 : Hid (RdAt w4 blk (qa + 1)) := hr4
  have HK4 : Hid (Kept blk w w4) := HK3.out.trans hk4
  have HOA : Hid (w4.ownsRow (w.heap.size + 1) 34 5 (.slice b0 xs.length c0) xs.length (affCells xs)) := owns_kept HOA3.out hk4 (by omega)
  have HOE : Hid (w4.ownsRow (w.heap.size + 1) 25 2 (.slice b1 es.length c1) es.length (entCells es)) := owns_kept HOE3.out hk4 (by omega)
  have HBX : Hid (w4.heap[wB.heap.size]? = some (.cells #[.slice b0 xs.length c0, .slice b1 es.length c1] 40 (0, 0))) := (hk4.block _ (by omega) (by omega)).trans HBX3.out
  have HRB : Hid (w4.heap[w.heap.size]? = some (.cells #[.slice none 0 0, .slice none 0 0] 40 (0, 0))) := (hk4.block _ (by omega) (by omega)).trans HRB3.out
  have hz4' : wB.heap.size < w4.heap.size := Nat.lt_of_lt_of_le hz3' hk4.size
  clear hv0 hv1 hr4 hk4 HOA3 HOE3 HBX3 HRB3 HR3 HK3
  have x0 : w4.cell? ⟨wB.heap.size, 0, none⟩ = some (.slice b0 xs.length c0) := by rw [cell_of_row _ _ 0 _ _ _ HBX.out]; rfl
  have x1 : w4.cell? ⟨wB.heap.size, 1, none⟩ = some (.slice b1 es.length c1) := by rw [cell_of_row _ _ 1 _ _ _ HBX.out]; rfl
  cases hva : (v == 0) with
  | true =>
    go_wp2_with fail
    go_region_law (first
      | (have qm := HK8; clear qm; refine step_append_own rfl (.tmp 11) (.tmp 14) 23 rfl (w.heap.size + 1) 34 i3 (.agg #[.string ⟨#[]⟩, .bool false, .string ⟨#[]⟩, .string ⟨#[]⟩, .string ⟨#[]⟩]) 5 72 Try.underlying23 hi3 hz3 hs3 hb3 rfl (by decide) _ _ _ rfl (by exact HOA8.out.alloc _) ⟨_, 0, none⟩ 1 1 [.string f, .bool fr, .string st, .string ad, .string wh] rfl rfl (by exact news_cells (cs := #[.string f, .bool fr, .string st, .string ad, .string wh]) (heap_alloc_last _ _)) (by simp [Value.oneCell']) (by unfold maxLen; omega) (by omega) (by simp; omega) ?_; intro v' w9 hown hgrow hnil; have HB9 : Hid (w9.heap[wB.heap.size]? = some (.cells #[.slice b0 xs.length c0, .slice b1 es.length c1] 40 (0, 0))) := (hgrow.block wB.heap.size (by simp; omega) (owns_block_ne HOA8.out HBX8.out (by decide))).trans (box_past HBX8.out); have HRB9 : Hid (w9.heap[w.heap.size]? = some (.cells #[.slice none 0 0, .slice none 0 0] 40 (0, 0))) := (hgrow.block w.heap.size (by simp; omega) (owns_block_ne HOA8.out HRB8.out (by decide))).trans (box_past HRB8.out); have z0 := cell_of_row _ _ 0 _ _ _ HB9.out; have z1 := cell_of_row _ _ 1 _ _ _ HB9.out; have z2 := Go.Joins.unfrozen_of_block HB9.out 0; simp at z0 z1; have HR9 : Hid (RdAt w9 blk q8) := rd_grown (rd_past HR8.out) hgrow (fun j hj => by have := own_block_ge HOA8.out j hj; omega); have HK9 : Hid (Kept blk w w9) := kept_grown (HKW8.out.alloc _) (owns_past HOA8.out) (by omega) hgrow; have HO9 : Hid (w9.ownsRow (w.heap.size + 1) 34 5 v' (xs.length + 1) (affCells xs ++ [.string f, .bool fr, .string st, .string ad, .string wh])) := hown; have HE9 : Hid (w9.ownsRow (w.heap.size + 1) 25 2 (.slice b1 es.length c1) es.length (entCells es)) := owns_apart (owns_past HOE8.out) (owns_past HOA8.out) (by decide) hgrow; clear hgrow hnil; obtain ⟨b9, c9, hv9⟩ := owns_form hown; subst hv9; clear hown)
      | (go_simp; go_at_call 46; refine (l13AnyAffix_any _ blk (qa + 1) (HR4.out.drewN 1) (by omega)).mono ?_; rintro e w8 ⟨a, rfl, has, ⟨q8, hr8, hq8⟩, hk8⟩; obtain ⟨f, fr, st, ad, wh⟩ := a; have HAS : Hid (Aff.small ⟨f, fr, st, ad, wh⟩) := has; have HK8 : Hid (Kept blk w4 w8) := kept_drew hk8; have HR8 : Hid (RdAt w8 blk q8) := hr8; have HOA8 : Hid (w8.ownsRow (w.heap.size + 1) 34 5 (.slice b0 xs.length c0) xs.length (affCells xs)) := owns_kept HOA.out HK8.out (by omega); have HOE8 : Hid (w8.ownsRow (w.heap.size + 1) 25 2 (.slice b1 es.length c1) es.length (entCells es)) := owns_kept HOE.out HK8.out (by omega); have HBX8 : Hid (w8.heap[wB.heap.size]? = some (.cells #[.slice b0 xs.length c0, .slice b1 es.length c1] 40 (0, 0))) := (HK8.out.block _ (by omega) (by omega)).trans HBX.out; have HRB8 : Hid (w8.heap[w.heap.size]? = some (.cells #[.slice none 0 0, .slice none 0 0] 40 (0, 0))) := (HK8.out.block _ (by omega) (by omega)).trans HRB.out; have HKW8 : Hid (Kept blk w w8) := HK4.out.trans HK8.out; have hz8 : w4.heap.size ≤ w8.heap.size := HK8.out.size; have hzb8 : wB.heap.size < w8.heap.size := Nat.lt_of_lt_of_le hz4' hz8; have x8 : w8.cell? ⟨wB.heap.size, 0, none⟩ = some (.slice b0 xs.length c0) := (HK8.out.cell (p := ⟨wB.heap.size, 0, none⟩) (by dsimp only; omega) (by dsimp only; omega)).trans x0; clear hk8 hr8 has; simp only [Aff.cells]))
    all_goals
      generalize hw10 : w9.setCell ⟨wB.heap.size, 0, none⟩ (.slice b9 (xs.length + 1) c9) = w10
      have HB10 : Hid (w10.heap[wB.heap.size]? = some (.cells #[.slice b9 (xs.length + 1) c9, .slice b1 es.length c1] 40 (0, 0))) := by show _ = _; rw [← hw10]; exact set_box0 HB9.out _
      have HRB10 : Hid (w10.heap[w.heap.size]? = some (.cells #[.slice none 0 0, .slice none 0 0] 40 (0, 0))) := by show _ = _; rw [← hw10]; exact (Below.heap_setCell w9 ⟨wB.heap.size, 0, none⟩ _ w.heap.size (by dsimp only; omega)).trans HRB9.out
      have HR10 : Hid (RdAt w10 blk q8) := by rw [← hw10]; exact HR9.out.setNew (by omega) _ _
      have HK10 : Hid (Kept blk w w10) := by rw [← hw10]; exact HK9.out.setNew (by omega) _ _
      have HO10 : Hid (w10.ownsRow (w.heap.size + 1) 34 5 (.slice b9 (xs.length + 1) c9) (xs ++ [(⟨f, fr, st, ad, wh⟩ : Aff)]).length (affCells (xs ++ [(⟨f, fr, st, ad, wh⟩ : Aff)]))) := by rw [← hw10, List.length_append, affCells_append, affCells_one]; exact owns_set2 HO9.out HB9.out (by decide) _ _
      have HE10 : Hid (w10.ownsRow (w.heap.size + 1) 25 2 (.slice b1 es.length c1) es.length (entCells es)) := by rw [← hw10]; exact owns_set2 HE9.out HB9.out (by decide) _ _
      have HX10 : Hid (∀ a ∈ xs ++ [(⟨f, fr, st, ad, wh⟩ : Aff)], a.small) := by
        intro a ha
        rcases List.mem_append.1 ha with ha | ha
        · exact HXS.out a ha
        · rw [List.mem_singleton.1 ha]; exact HAS.out
      clear hw10 z0 z1 z2 x0 x1
      have r0 : w10.cell? ⟨w.heap.size, 0, none⟩ = some (.slice none 0 0) := by rw [cell_of_row _ _ 0 _ _ _ HRB10.out]; rfl
      have r1 : w10.cell? ⟨w.heap.size, 1, none⟩ = some (.slice none 0 0) := by rw [cell_of_row _ _ 1 _ _ _ HRB10.out]; rfl
      have u0 := Go.Joins.unfrozen_of_block HRB10.out 0
      have u1 := Go.Joins.unfrozen_of_block HRB10.out 1
      have t0 : w10.cell? ⟨wB.heap.size, 0, none⟩ = some (.slice b9 (xs.length + 1) c9) := by rw [cell_of_row _ _ 0 _ _ _ HB10.out]; rfl
      have t1 : w10.cell? ⟨wB.heap.size, 1, none⟩ = some (.slice b1 es.length c1) := by rw [cell_of_row _ _ 1 _ _ _ HB10.out]; rfl
      go_wp2
      refine bodyPost_ret (v := .agg #[.slice b9 (xs.length + 1) c9, .slice b1 es.length c1]) (by simp [results, Try.results23, go_sem, r0, r1]) rfl ⟨_, _, (xs ++ [(⟨f, fr, st, ad, wh⟩ : Aff)]), es, rfl, ?_, ?_, by simp; omega, by omega, HX10.out, HES.out, ⟨_, (HR10.out.setNew hlt _ _).setNew hlt _ _, by omega⟩, (HK10.out.setNew (Nat.le_refl _) _ _).setNew (Nat.le_refl _) _ _⟩
      · exact owns_lower (owns_set (owns_set HO10.out _ _ _ (by omega)) _ _ _ (by omega)) (by omega)
      · exact owns_lower (owns_set (owns_set HE10.out _ _ _ (by omega)) _ _ _ (by omega)) (by omega)
  | false =>
    cases hvb : (v == 1) with
    | true =>
      have x1o : ∀ o : Obj, (w4.drew.alloc o).cell? ⟨wB.heap.size, 1, none⟩ = some (.slice b1 es.length c1) := fun o => ((((Kept.refl blk w4).drewN 1).alloc o).cell (p := ⟨wB.heap.size, 1, none⟩) (by dsimp only; omega) (by dsimp only; omega)).trans x1
      go_wp2_with fail
      go_region_law (first
        | (have qm := HK8b; clear qm; refine step_append_own rfl (.tmp 20) (.tmp 27) 38 rfl (w.heap.size + 1) 25 i4 (.agg #[.string ⟨#[]⟩, .string ⟨#[]⟩]) 2 32 Try.underlying38 hi4 hz4 hs4 hb4 rfl (by decide) _ _ _ rfl (by exact HOE8.out.alloc _) ⟨_, 0, none⟩ 1 1 [.string sw, .string fl] rfl rfl (by exact news_cells (cs := #[.string sw, .string fl]) (heap_alloc_last _ _)) (by simp [Value.oneCell']) (by unfold maxLen; omega) (by omega) (by simp; omega) ?_; intro v' w9 hown hgrow hnil; have HB9 : Hid (w9.heap[wB.heap.size]? = some (.cells #[.slice b0 xs.length c0, .slice b1 es.length c1] 40 (0, 0))) := (hgrow.block wB.heap.size (by simp; omega) (owns_block_ne HOE8.out HBX8.out (by decide))).trans (box_past HBX8.out); have HRB9 : Hid (w9.heap[w.heap.size]? = some (.cells #[.slice none 0 0, .slice none 0 0] 40 (0, 0))) := (hgrow.block w.heap.size (by simp; omega) (owns_block_ne HOE8.out HRB8.out (by decide))).trans (box_past HRB8.out); have z0 := cell_of_row _ _ 0 _ _ _ HB9.out; have z1 := cell_of_row _ _ 1 _ _ _ HB9.out; have z2 := Go.Joins.unfrozen_of_block HB9.out 1; simp at z0 z1; have HR9 : Hid (RdAt w9 blk (q8 + 1)) := rd_grown (rd_past HR8b.out) hgrow (fun j hj => by have := own_block_ge HOE8.out j hj; omega); have HK9 : Hid (Kept blk w w9) := kept_grown (HKW8.out.alloc _) (owns_past HOE8.out) (by omega) hgrow; have HO9 : Hid (w9.ownsRow (w.heap.size + 1) 25 2 v' (es.length + 1) (entCells es ++ [.string sw, .string fl])) := hown; have HE9 : Hid (w9.ownsRow (w.heap.size + 1) 34 5 (.slice b0 xs.length c0) xs.length (affCells xs)) := owns_apart (owns_past HOA8.out) (owns_past HOE8.out) (by decide) hgrow; clear hgrow hnil; obtain ⟨b9, c9, hv9⟩ := owns_form hown; subst hv9; clear hown)
        | (go_simp; go_at_call 27; (first | refine (of_any (fun s => s.size ≤ 20) w8 blk q8 w4.heap.size 4 4 HR8.out (by omega) (by omega) (by omega) HL8.out (by omega)).mono ?_ | refine (of_any (fun s => s.size ≤ 20) _ blk q8 _ 4 4 (by exact HR8.out.alloc _) (by omega) (by omega) (by omega) (by intro i hi; refine lit_texts 20 _ _ _ ?_ i hi; decide +kernel) (by have := HR8.out.lt; omega)).mono ?_); rintro e w8b ⟨fl, rfl, hfl, hr8b, hk8b⟩; have HK8b : Hid (Kept blk w4 w8b) := (by first | exact HK8.out.trans hk8b | exact (HK8.out.alloc _).trans hk8b); have HR8b : Hid (RdAt w8b blk (q8 + 1)) := hr8b; have HOA8 : Hid (w8b.ownsRow (w.heap.size + 1) 34 5 (.slice b0 xs.length c0) xs.length (affCells xs)) := owns_kept HOA.out HK8b.out (by omega); have HOE8 : Hid (w8b.ownsRow (w.heap.size + 1) 25 2 (.slice b1 es.length c1) es.length (entCells es)) := owns_kept HOE.out HK8b.out (by omega); have HBX8 : Hid (w8b.heap[wB.heap.size]? = some (.cells #[.slice b0 xs.length c0, .slice b1 es.length c1] 40 (0, 0))) := (HK8b.out.block _ (by omega) (by omega)).trans HBX.out; have HRB8 : Hid (w8b.heap[w.heap.size]? = some (.cells #[.slice none 0 0, .slice none 0 0] 40 (0, 0))) := (HK8b.out.block _ (by omega) (by omega)).trans HRB.out; have HKW8 : Hid (Kept blk w w8b) := HK4.out.trans HK8b.out; have hz8b : w4.heap.size ≤ w8b.heap.size := HK8b.out.size; have hzb8 : wB.heap.size < w8b.heap.size := Nat.lt_of_lt_of_le hz4' hz8b; have x8 : w8b.cell? ⟨wB.heap.size, 1, none⟩ = some (.slice b1 es.length c1) := (HK8b.out.cell (p := ⟨wB.heap.size, 1, none⟩) (by dsimp only; omega) (by dsimp only; omega)).trans x1; have x8p : ∀ o : Obj, (w8b.alloc o).cell? ⟨wB.heap.size, 1, none⟩ = some (.slice b1 es.length c1) := (fun o => ((((Kept.refl blk w8b).alloc o).cell (p := ⟨wB.heap.size, 1, none⟩) (by dsimp only; omega) (by dsimp only; omega))).trans x8); clear hk8b hr8b)
        | (go_simp; go_at_call 25; refine (l13AnyWord_any _ blk (qa + 1) (HR4.out.drewN 1) (by omega)).mono ?_; rintro e w8 ⟨sw, rfl, hsw, ⟨q8, hr8, hq8⟩, hk8⟩; have HSW : Hid (sw.size ≤ 20) := hsw; have HK8 : Hid (Kept blk w4 w8) := kept_drew hk8; have HR8 : Hid (RdAt w8 blk q8) := hr8; have hz8 : w4.heap.size ≤ w8.heap.size := HK8.out.size; have x8a : w8.cell? ⟨wB.heap.size, 1, none⟩ = some (.slice b1 es.length c1) := (HK8.out.cell (p := ⟨wB.heap.size, 1, none⟩) (by dsimp only; omega) (by dsimp only; omega)).trans x1; have x8o : ∀ o : Obj, (w8.alloc o).cell? ⟨wB.heap.size, 1, none⟩ = some (.slice b1 es.length c1) := (fun o => ((((Kept.refl blk w8).alloc o).cell (p := ⟨wB.heap.size, 1, none⟩) (by dsimp only; omega) (by dsimp only; omega))).trans x8a); clear hk8 hr8 hsw)
        | (go_simp; go_at_call 25; refine (l13AnyWord_any _ blk (qa + 1) ((HR4.out.drewN 1).alloc _) (by omega)).mono ?_; rintro e w8 ⟨sw, rfl, hsw, ⟨q8, hr8, hq8⟩, hk8⟩; have HSW : Hid (sw.size ≤ 20) := hsw; have HK8 : Hid (Kept blk w4 w8) := (((Kept.refl blk w4).drewN 1).alloc _).trans hk8; have HL8 : Hid (∀ i, i < 4 → ∃ s : ByteArray, w8.cell? ⟨w4.heap.size, i, none⟩ = some (.string s) ∧ s.size ≤ 20) := (fun i hi => by have hh := lit_texts 20 (w4.drewN 1) #[.string ⟨#[]⟩, .string ⟨#[83, 71]⟩, .string ⟨#[115]⟩, .string ⟨#[65, 66, 67, 68, 69]⟩] 9 (by decide +kernel) i hi; obtain ⟨s, h1, h2⟩ := hh; exact ⟨s, (hk8.cell (p := ⟨w4.heap.size, i, none⟩) (by rw [World.size_alloc]; exact Nat.lt_succ_self _) (by dsimp only; omega)).trans h1, h2⟩); have HR8 : Hid (RdAt w8 blk q8) := hr8; have hz8 : w4.heap.size ≤ w8.heap.size := HK8.out.size; have x8a : w8.cell? ⟨wB.heap.size, 1, none⟩ = some (.slice b1 es.length c1) := (HK8.out.cell (p := ⟨wB.heap.size, 1, none⟩) (by dsimp only; omega) (by dsimp only; omega)).trans x1; have x8o : ∀ o : Obj, (w8.alloc o).cell? ⟨wB.heap.size, 1, none⟩ = some (.slice b1 es.length c1) := (fun o => ((((Kept.refl blk w8).alloc o).cell (p := ⟨wB.heap.size, 1, none⟩) (by dsimp only; omega) (by dsimp only; omega))).trans x8a); clear hk8 hr8 hsw))
      all_goals
        generalize hw10 : w9.setCell ⟨wB.heap.size, 1, none⟩ (.slice b9 (es.length + 1) c9) = w10
        have HB10 : Hid (w10.heap[wB.heap.size]? = some (.cells #[.slice b0 xs.length c0, .slice b9 (es.length + 1) c9] 40 (0, 0))) := by show _ = _; rw [← hw10]; exact set_box HB9.out _
        have HRB10 : Hid (w10.heap[w.heap.size]? = some (.cells #[.slice none 0 0, .slice none 0 0] 40 (0, 0))) := by show _ = _; rw [← hw10]; exact (Below.heap_setCell w9 ⟨wB.heap.size, 1, none⟩ _ w.heap.size (by dsimp only; omega)).trans HRB9.out
        have HR10 : Hid (RdAt w10 blk (q8 + 1)) := by rw [← hw10]; exact HR9.out.setNew (by omega) _ _
        have HK10 : Hid (Kept blk w w10) := by rw [← hw10]; exact HK9.out.setNew (by omega) _ _
        have HO10 : Hid (w10.ownsRow (w.heap.size + 1) 25 2 (.slice b9 (es.length + 1) c9) (es ++ [(sw, fl)]).length (entCells (es ++ [(sw, fl)]))) := by rw [← hw10, List.length_append, entCells_append]; exact owns_set2 HO9.out HB9.out (by decide) _ _
        have HE10 : Hid (w10.ownsRow (w.heap.size + 1) 34 5 (.slice b0 xs.length c0) xs.length (affCells xs)) := by rw [← hw10]; exact owns_set2 HE9.out HB9.out (by decide) _ _
        have HX10 : Hid (∀ e ∈ es ++ [(sw, fl)], e.1.size ≤ 20 ∧ e.2.size ≤ 20) := by
          intro a ha
          rcases List.mem_append.1 ha with ha | ha
          · exact HES.out a ha
          · rw [List.mem_singleton.1 ha]; exact ⟨HSW.out, hfl⟩
        clear hw10 z0 z1 z2 x0 x1
        have r0 : w10.cell? ⟨w.heap.size, 0, none⟩ = some (.slice none 0 0) := by rw [cell_of_row _ _ 0 _ _ _ HRB10.out]; rfl
        have r1 : w10.cell? ⟨w.heap.size, 1, none⟩ = some (.slice none 0 0) := by rw [cell_of_row _ _ 1 _ _ _ HRB10.out]; rfl
        have u0 := Go.Joins.unfrozen_of_block HRB10.out 0
        have u1 := Go.Joins.unfrozen_of_block HRB10.out 1
        have t0 : w10.cell? ⟨wB.heap.size, 0, none⟩ = some (.slice b0 xs.length c0) := by rw [cell_of_row _ _ 0 _ _ _ HB10.out]; rfl
        have t1 : w10.cell? ⟨wB.heap.size, 1, none⟩ = some (.slice b9 (es.length + 1) c9) := by rw [cell_of_row _ _ 1 _ _ _ HB10.out]; rfl
        go_wp2
        refine bodyPost_ret (v := .agg #[.slice b0 xs.length c0, .slice b9 (es.length + 1) c9]) (by simp [results, Try.results23, go_sem, r0, r1]) rfl ⟨_, _, xs, (es ++ [(sw, fl)]), rfl, ?_, ?_, by omega, by simp; omega, HXS.out, HX10.out, ⟨_, (HR10.out.setNew hlt _ _).setNew hlt _ _, by omega⟩, (HK10.out.setNew (Nat.le_refl _) _ _).setNew (Nat.le_refl _) _ _⟩
        · exact owns_lower (owns_set (owns_set HE10.out _ _ _ (by omega)) _ _ _ (by omega)) (by omega)
        · exact owns_lower (owns_set (owns_set HO10.out _ _ _ (by omega)) _ _ _ (by omega)) (by omega)
    | false =>
      cases hvc : (v == 2) with
      | true =>
        by_cases hle : (0 : Int) < (es.length : Int)
        · obtain ⟨s0, f0, rest, he0⟩ : ∃ s0 f0 rest, es = (s0, f0) :: rest := by
            cases es with
            | nil => simp at hle
            | cons a r => exact ⟨a.1, a.2, r, rfl⟩
          have HE0 : Hid (es = (s0, f0) :: rest) := he0
          clear he0
          obtain ⟨g, cg, cs, hvg, hg, hbg, hcg⟩ := ents_head HOE.out HE0.out
          simp only [Value.slice.injEq, true_and] at hvg
          obtain ⟨rfl, rfl⟩ := hvg
          have hgl := lt_of_block hbg
          have hgB : wB.heap.size ≠ g := fun e => owns_block_ne HOE.out HBX.out (by decide) (by simp [Value.ownBlock, e])
          have HBG : Hid (w4.heap[g]? = some (.cells cs 25 (0, 0)) ∧ cs[0]? = some (.string s0)) := ⟨hbg, hcg⟩
          clear hbg hcg
          go_wp2_with fail
          go_region_law (go_simp; go_at_call 27; refine (of_any (fun s => s.size ≤ 20) _ blk (qa + 1) _ 3 3 (by exact (HR4.out.drewN 1).alloc _) (by omega) (by omega) (by omega) (by intro i hi; refine lit_texts 20 _ _ _ ?_ i hi; decide +kernel) (by first | omega | (simp; omega))).mono ?_; rintro e w8 ⟨fl, rfl, hfl, hr8, hk8⟩; have HK8 : Hid (Kept blk w4 w8) := (((Kept.refl blk w4).drewN 1).alloc _).trans hk8; have HR8 : Hid (RdAt w8 blk (qa + 1 + 1)) := hr8; have HG8 : Hid (w8.heap[g]? = some (.cells cs 25 (0, 0))) := (HK8.out.block g hgl (by omega)).trans HBG.out.1; have g0 : w8.cell? ⟨g, 0, none⟩ = some (.string s0) := (cell_of_row _ _ 0 _ _ _ HG8.out).trans HBG.out.2; have g1 := Go.Joins.unfrozen_of_block HG8.out 0; have x8 : w8.cell? ⟨wB.heap.size, 1, none⟩ = some (.slice (some ⟨g, 0, none⟩) es.length c1) := (HK8.out.cell (p := ⟨wB.heap.size, 1, none⟩) (by dsimp only; omega) (by dsimp only; omega)).trans x1; clear hr8 hk8)
          all_goals
            generalize hw10 : w8.setCell ⟨g, 0, none⟩ (.string fl) = w10
            have HB10 : Hid (w10.heap[wB.heap.size]? = some (.cells #[.slice b0 xs.length c0, .slice (some ⟨g, 0, none⟩) es.length c1] 40 (0, 0))) := by show _ = _; rw [← hw10]; exact (Below.heap_setCell w8 ⟨g, 0, none⟩ _ wB.heap.size (by dsimp only; omega)).trans ((HK8.out.block _ (by omega) (by omega)).trans HBX.out)
            have HRB10 : Hid (w10.heap[w.heap.size]? = some (.cells #[.slice none 0 0, .slice none 0 0] 40 (0, 0))) := by show _ = _; rw [← hw10]; exact (Below.heap_setCell w8 ⟨g, 0, none⟩ _ w.heap.size (by dsimp only; omega)).trans ((HK8.out.block _ (by omega) (by omega)).trans HRB.out)
            have HR10 : Hid (RdAt w10 blk (qa + 1 + 1)) := by rw [← hw10]; exact HR8.out.setNew (by omega) _ _
            have HK10 : Hid (Kept blk w w10) := by rw [← hw10]; exact (HK4.out.trans HK8.out).setNew (by omega) _ _
            have HO10 : Hid (w10.ownsRow (w.heap.size + 1) 25 2 (.slice (some ⟨g, 0, none⟩) es.length c1) ((fl, f0) :: rest).length (entCells ((fl, f0) :: rest))) := by rw [← hw10]; exact ents_poke (owns_kept HOE.out HK8.out (by omega)) HE0.out fl
            have HE10 : Hid (w10.ownsRow (w.heap.size + 1) 34 5 (.slice b0 xs.length c0) xs.length (affCells xs)) := by rw [← hw10]; exact owns_set2 (owns_kept HOA.out HK8.out (by omega)) HG8.out (by decide) _ _
            have HX10 : Hid (∀ e ∈ (fl, f0) :: rest, e.1.size ≤ 20 ∧ e.2.size ≤ 20) := by
              intro a ha
              have hall := HES.out
              rw [HE0.out] at hall
              rcases List.mem_cons.1 ha with rfl | ha
              · exact ⟨hfl, (hall (s0, f0) (by simp)).2⟩
              · exact hall a (by simp [ha])
            have HL10 : Hid (((fl, f0) :: rest).length ≤ 25) := by
              have hl := congrArg List.length HE0.out
              simp only [List.length_cons] at hl
              show _ ≤ _
              simp only [List.length_cons]
              omega
            clear hw10 g0 g1 x0 x1 x8
            have r0 : w10.cell? ⟨w.heap.size, 0, none⟩ = some (.slice none 0 0) := by rw [cell_of_row _ _ 0 _ _ _ HRB10.out]; rfl
            have r1 : w10.cell? ⟨w.heap.size, 1, none⟩ = some (.slice none 0 0) := by rw [cell_of_row _ _ 1 _ _ _ HRB10.out]; rfl
            have u0 := Go.Joins.unfrozen_of_block HRB10.out 0
            have u1 := Go.Joins.unfrozen_of_block HRB10.out 1
            have t0 : w10.cell? ⟨wB.heap.size, 0, none⟩ = some (.slice b0 xs.length c0) := by rw [cell_of_row _ _ 0 _ _ _ HB10.out]; rfl
            have t1 : w10.cell? ⟨wB.heap.size, 1, none⟩ = some (.slice (some ⟨g, 0, none⟩) es.length c1) := by rw [cell_of_row _ _ 1 _ _ _ HB10.out]; rfl
            go_wp2
            refine bodyPost_ret (v := .agg #[.slice b0 xs.length c0, .slice (some ⟨g, 0, none⟩) es.length c1]) (by simp [results, Try.results23, go_sem, r0, r1]) rfl ⟨_, _, xs, ((fl, f0) :: rest), rfl, ?_, ?_, by omega, HL10.out, HXS.out, HX10.out, ⟨_, (HR10.out.setNew hlt _ _).setNew hlt _ _, by omega⟩, (HK10.out.setNew (Nat.le_refl _) _ _).setNew (Nat.le_refl _) _ _⟩
            · exact owns_lower (owns_set (owns_set HE10.out _ _ _ (by omega)) _ _ _ (by omega)) (by omega)
            · exact owns_lower (owns_set (owns_set HO10.out _ _ _ (by omega)) _ _ _ (by omega)) (by omega)
        · skip
          have r0 : w4.cell? ⟨w.heap.size, 0, none⟩ = some (.slice none 0 0) := by rw [cell_of_row _ _ 0 _ _ _ HRB.out]; rfl
          have r1 : w4.cell? ⟨w.heap.size, 1, none⟩ = some (.slice none 0 0) := by rw [cell_of_row _ _ 1 _ _ _ HRB.out]; rfl
          have u0 := Go.Joins.unfrozen_of_block HRB.out 0
          have u1 := Go.Joins.unfrozen_of_block HRB.out 1
          have t0 : w4.cell? ⟨wB.heap.size, 0, none⟩ = some (.slice b0 xs.length c0) := by rw [cell_of_row _ _ 0 _ _ _ HBX.out]; rfl
          have t1 : w4.cell? ⟨wB.heap.size, 1, none⟩ = some (.slice b1 es.length c1) := by rw [cell_of_row _ _ 1 _ _ _ HBX.out]; rfl
          go_wp2
          refine bodyPost_ret (v := .agg #[.slice b0 xs.length c0, .slice b1 es.length c1]) (by simp [results, Try.results23, go_sem, r0, r1]) rfl ⟨_, _, xs, es, rfl, ?_, ?_, by omega, by omega, HXS.out, HES.out, ⟨_, (HR4.out.setNew hlt _ _).setNew hlt _ _, by omega⟩, (HK4.out.setNew (Nat.le_refl _) _ _).setNew (Nat.le_refl _) _ _⟩
          · exact owns_lower (owns_set (owns_set HOA.out _ _ _ (by omega)) _ _ _ (by omega)) (by omega)
          · exact owns_lower (owns_set (owns_set HOE.out _ _ _ (by omega)) _ _ _ (by omega)) (by omega)
      | false =>
        have r0 : w4.cell? ⟨w.heap.size, 0, none⟩ = some (.slice none 0 0) := by rw [cell_of_row _ _ 0 _ _ _ HRB.out]; rfl
        have r1 : w4.cell? ⟨w.heap.size, 1, none⟩ = some (.slice none 0 0) := by rw [cell_of_row _ _ 1 _ _ _ HRB.out]; rfl
        have u0 := Go.Joins.unfrozen_of_block HRB.out 0
        have u1 := Go.Joins.unfrozen_of_block HRB.out 1
        have t0 : w4.cell? ⟨wB.heap.size, 0, none⟩ = some (.slice b0 xs.length c0) := by rw [cell_of_row _ _ 0 _ _ _ HBX.out]; rfl
        have t1 : w4.cell? ⟨wB.heap.size, 1, none⟩ = some (.slice b1 es.length c1) := by rw [cell_of_row _ _ 1 _ _ _ HBX.out]; rfl
        go_wp2
        refine bodyPost_ret (v := .agg #[.slice b0 xs.length c0, .slice b1 es.length c1]) (by simp [results, Try.results23, go_sem, r0, r1]) rfl ⟨_, _, xs, es, rfl, ?_, ?_, by omega, by omega, HXS.out, HES.out, ⟨_, (HR4.out.setNew hlt _ _).setNew hlt _ _, by omega⟩, (HK4.out.setNew (Nat.le_refl _) _ _).setNew (Nat.le_refl _) _ _⟩
        · exact owns_lower (owns_set (owns_set HOA.out _ _ _ (by omega)) _ _ _ (by omega)) (by omega)
        · exact owns_lower (owns_set (owns_set HOE.out _ _ _ (by omega)) _ _ _ (by omega)) (by omega)
end Go.Proofs.Ythikcililececaa
