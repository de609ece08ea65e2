/-
  Worlds that begin: compared, marked, held.
-/
import Derived.Test.YtfpkphkgnolkkaaW201
namespace Go.Proofs.Ytfpkphkgnolkkaa
open Go.RowKit
set_option linter.unusedVariables false
/-- A world of a key, so many books that are empty, no texts, so many clients. -/
def WldOwn (lo hi : Nat) (w : World) (v : Value) (s : ByteArray) (nb n : Nat) (F : Nat → Nat → Value) : Prop :=
  ∃ vb vc, v = .agg #[.string s, vb, .slice none 0 0, vc] ∧ BkAt w vb nb ∧ CliOwn lo hi w vc n F
theorem WldOwn.below {lo hi : Nat} {w w' : World} {v : Value} {s : ByteArray} {nb n : Nat} {F : Nat → Nat → Value} (h : WldOwn lo hi w v s nb n F) (hb : Below w.heap.size w w') : WldOwn lo hi w' v s nb n F := by
  obtain ⟨vb, vc, hv, h1, h2⟩ := h
  exact ⟨vb, vc, hv, h1.below hb, RowOwn.below h2 hb⟩
theorem BkAt.form {w : World} {v : Value} {n : Nat} (h : BkAt w v n) : ∃ a, v = .slice a n n := by
  rcases h with ⟨rfl, rfl⟩ | ⟨rfl, B, rfl, _⟩
  · exact ⟨_, rfl⟩
  · exact ⟨_, rfl⟩
/-- What is written of clients leaves books as they are. -/
theorem bk_grown {lo hi : Nat} {w w' : World} {v vc : Value} {nb n : Nat} {F : Nat → Nat → Value} (h : BkAt w v nb) (hc : CliOwn lo hi w vc n F) (hg : w.grownBy w' (rowOf vc n)) : BkAt w' v nb := by
  rcases h with h | ⟨hn, B, hv, hB⟩
  · exact .inl h
  · refine .inr ⟨hn, B, hv, (hg.block B (lt_of_block hB) ?_).trans hB⟩
    by_cases h0 : n = 0
    · subst h0
      rw [rowOf_zero]
      simp
    · obtain ⟨a, cap, rfl, _, _, hh⟩ := hc
      obtain ⟨g, m, f, rfl, _, _, _, hr, _⟩ := hh h0
      rw [rowOf_pos h0]
      intro e
      have e2 : B = g := by simpa using e
      subst e2
      obtain ⟨cur, hcur, _⟩ := hr
      rw [hB] at hcur
      simp at hcur
theorem nilTexts (w : World) : TextsAt w (.slice none 0 0) [] := ⟨none, 0, rfl, Nat.le_refl _, Nat.zero_le _, fun i x hx => by simp at hx, fun hn => absurd rfl hn⟩
set_option maxHeartbeats 1000000 in
theorem eqWorld_new (s k : ByteArray) (w : World) (v u : Value) (nb n lo hi lo' hi' : Nat) (h : WldOwn lo hi w v s nb n (newF k)) (h' : WldOwn lo' hi' w u s nb n (newF k)) (hn : n ≤ 3) :
    Calls Try.prog 6 #[v, u] w fun e w' => e = .returned (.bool true) ∧ Below w.heap.size w w' := by
  obtain ⟨vb, vc, rfl, hb, hc⟩ := h
  obtain ⟨ub, uc, rfl, hb', hc'⟩ := h'
  obtain ⟨ab, rfl⟩ := hb.form
  obtain ⟨ab', rfl⟩ := hb'.form
  obtain ⟨ac, cc, rfl, -⟩ := hc.form
  obtain ⟨ac', cc', rfl, -⟩ := hc'.form
  obtain ⟨w0, hw0⟩ : ∃ x, (w.alloc (.cells #[.string s, .slice ab nb nb, .slice none 0 0, .slice ac n cc] 26)).alloc (.cells #[.string s, .slice ab' nb nb, .slice none 0 0, .slice ac' n cc'] 26) = x := ⟨_, rfl⟩
  have HB0 : Hid (Below w.heap.size w w0) := by rw [← hw0]; exact ((Below.refl _ _).alloc (Nat.le_refl _) _).alloc (by simp) _
  have hX : w0.heap[w.heap.size]? = some (.cells #[.string s, .slice ab nb nb, .slice none 0 0, .slice ac n cc] 26 (0, 0)) := by rw [← hw0]; exact (((Below.refl _ (w.alloc (.cells #[.string s, .slice ab nb nb, .slice none 0 0, .slice ac n cc] 26))).alloc (Nat.le_refl _) _).block w.heap.size (by simp)).trans (heap_alloc_last w _)
  have hY : w0.heap[w.heap.size + 1]? = some (.cells #[.string s, .slice ab' nb nb, .slice none 0 0, .slice ac' n cc'] 26 (0, 0)) := by
    rw [← hw0]
    have h := heap_alloc_last (w.alloc (.cells #[.string s, .slice ab nb nb, .slice none 0 0, .slice ac n cc] 26)) (.cells #[.string s, .slice ab' nb nb, .slice none 0 0, .slice ac' n cc'] 26)
    rw [World.size_alloc] at h
    exact h
  have HZ : Hid (∀ w', Below w0.heap.size w0 w' → (w'.cell? ⟨w.heap.size, 0, none⟩ = some (.string s) ∧ w'.cell? ⟨w.heap.size, 1, none⟩ = some (.slice ab nb nb) ∧ w'.cell? ⟨w.heap.size, 2, none⟩ = some (.slice none 0 0) ∧ w'.cell? ⟨w.heap.size, 3, none⟩ = some (.slice ac n cc)) ∧ (w'.cell? ⟨w.heap.size + 1, 0, none⟩ = some (.string s) ∧ w'.cell? ⟨w.heap.size + 1, 1, none⟩ = some (.slice ab' nb nb) ∧ w'.cell? ⟨w.heap.size + 1, 2, none⟩ = some (.slice none 0 0) ∧ w'.cell? ⟨w.heap.size + 1, 3, none⟩ = some (.slice ac' n cc'))) := fun w' h => by
    have e1 := (h.block _ (lt_of_block hX)).trans hX
    have e2 := (h.block _ (lt_of_block hY)).trans hY
    exact ⟨⟨by rw [cell_of_row _ _ 0 _ _ _ e1]; rfl, by rw [cell_of_row _ _ 1 _ _ _ e1]; rfl, by rw [cell_of_row _ _ 2 _ _ _ e1]; rfl, by rw [cell_of_row _ _ 3 _ _ _ e1]; rfl⟩, by rw [cell_of_row _ _ 0 _ _ _ e2]; rfl, by rw [cell_of_row _ _ 1 _ _ _ e2]; rfl, by rw [cell_of_row _ _ 2 _ _ _ e2]; rfl, by rw [cell_of_row _ _ 3 _ _ _ e2]; rfl⟩
  have H1 : Hid (BkAt w (.slice ab nb nb) nb) := hb
  have H2 : Hid (BkAt w (.slice ab' nb nb) nb) := hb'
  have H3 : Hid (CliOwn lo hi w (.slice ac n cc) n (newF k)) := hc
  have H4 : Hid (CliOwn lo' hi' w (.slice ac' n cc') n (newF k)) := hc'
  clear hb hb' hc hc' hX hY
  obtain ⟨⟨x0, x1, x2, x3⟩, y0, y1, y2, y3⟩ := HZ.out w0 (Below.refl _ _)
  go_enter Try.func6, Try.ntmps6
  go_wp2_with fail
  clear hw0
  refine (eqBookS_new _ _ _ nb (H1.out.below HB0.out) (H2.out.below HB0.out)).mono ?_
  rintro e w1 ⟨rfl, hb1⟩
  have B1 : Hid (Below w0.heap.size w0 w1) := hb1
  have C1 : Hid (Below w.heap.size w w1) := HB0.out.trans (hb1.mono HB0.out.size)
  clear hb1 x0 x1 x2 x3 y0 y1 y2 y3
  obtain ⟨⟨x0, x1, x2, x3⟩, y0, y1, y2, y3⟩ := HZ.out w1 B1.out
  go_wp2_with fail
  refine (eqStringS_same _ _ _ [] (nilTexts _) (nilTexts _)).mono ?_
  rintro e w2 ⟨rfl, hb2⟩
  have B2 : Hid (Below w0.heap.size w0 w2) := B1.out.trans (hb2.mono B1.out.size)
  have C2 : Hid (Below w.heap.size w w2) := C1.out.trans (hb2.mono C1.out.size)
  clear hb2 x0 x1 x2 x3 y0 y1 y2 y3
  obtain ⟨⟨x0, x1, x2, x3⟩, y0, y1, y2, y3⟩ := HZ.out w2 B2.out
  go_wp2_with fail
  refine (eqClientS_new k _ _ _ n lo hi lo' hi' (RowOwn.below H3.out C2.out) (RowOwn.below H4.out C2.out) hn).mono ?_
  rintro e w3 ⟨rfl, hb3⟩
  have C3 : Hid (Below w.heap.size w w3) := C2.out.trans (hb3.mono C2.out.size)
  clear hb3 x0 x1 x2 x3 y0 y1 y2 y3
  go_wp2
  go_ret
  exact ⟨rfl, C3.out⟩
set_option maxHeartbeats 1000000 in
theorem markWorld_new (s sk : ByteArray) (w : World) (v : Value) (nb n k lo hi : Nat) (h : WldOwn lo hi w v s nb n (newF sk)) (hn : n ≤ 3) (hk : k ≤ 1000000) (hlo : hi ≤ w.heap.size) (hlh : lo ≤ hi) :
    Calls Try.prog 7 #[v, .int .i64 k] w fun e w' => e = .returned (.int .i64 ((k + n * 4 : Nat) : Int)) ∧ WldOwn lo hi w' v s nb n (markF k) ∧ Wr lo hi w w' := by
  obtain ⟨vb, vc, rfl, hb, hc⟩ := h
  obtain ⟨ab, rfl⟩ := hb.form
  obtain ⟨ac, cc, rfl, -⟩ := hc.form
  have hk0 : ¬ ((k : Int) < 0) := by omega
  have hk1 : ¬ (((k + n * 4 : Nat) : Int) < 0) := by omega
  obtain ⟨w0, hw0⟩ : ∃ x, w.alloc (.cells #[.string s, .slice ab nb nb, .slice none 0 0, .slice ac n cc] 26) = x := ⟨_, rfl⟩
  have HB0 : Hid (Below w.heap.size w w0) := by rw [← hw0]; exact (Below.refl _ _).alloc (Nat.le_refl _) _
  have hX : w0.heap[w.heap.size]? = some (.cells #[.string s, .slice ab nb nb, .slice none 0 0, .slice ac n cc] 26 (0, 0)) := by rw [← hw0]; exact heap_alloc_last w _
  have x1 : w0.cell? ⟨w.heap.size, 1, none⟩ = some (.slice ab nb nb) := by rw [cell_of_row _ _ 1 _ _ _ hX]; rfl
  have x2 : w0.cell? ⟨w.heap.size, 2, none⟩ = some (.slice none 0 0) := by rw [cell_of_row _ _ 2 _ _ _ hX]; rfl
  have x3 : w0.cell? ⟨w.heap.size, 3, none⟩ = some (.slice ac n cc) := by rw [cell_of_row _ _ 3 _ _ _ hX]; rfl
  have H1 : Hid (BkAt w (.slice ab nb nb) nb) := hb
  have H3 : Hid (CliOwn lo hi w (.slice ac n cc) n (newF sk)) := hc
  clear hb hc hX
  go_enter Try.func7, Try.ntmps7
  go_wp2_with fail
  clear hw0
  refine (markBookS_new _ _ nb k (H1.out.below HB0.out)).mono ?_
  rintro e w1 ⟨rfl, he⟩
  rw [he]
  clear he
  go_wp2_with fail
  refine (markStringS_nil _ _).mono ?_
  rintro e w2 ⟨rfl, he⟩
  rw [he]
  clear he
  go_wp2_with fail
  have hz : hi ≤ w0.heap.size := Nat.le_trans hlo HB0.out.size
  refine (markClientS_new sk _ _ n k lo hi (RowOwn.below H3.out HB0.out) hn hk (by omega)).mono ?_
  rintro e w3 ⟨rfl, hc3, hw3, hg3⟩
  have HC3 : Hid (CliOwn lo hi w3 (.slice ac n cc) n (markF k)) := hc3
  have HW3 : Hid (Wr lo hi w w3) := (Wr.of_below HB0.out (by omega)).trans hw3
  have HB3 : Hid (BkAt w3 (.slice ab nb nb) nb) := bk_grown (H1.out.below HB0.out) (RowOwn.below H3.out HB0.out) hg3
  clear hc3 hw3 hg3 x1 x2 x3
  obtain ⟨K, hK⟩ : ∃ K : Nat, k + n * 4 = K := ⟨_, rfl⟩
  have HKK : Hid (k + n * 4 = K) := hK
  rw [hK] at hk1 ⊢
  clear hK
  go_wp2
  go_ret
  exact ⟨by rw [HKK.out]; rfl, ⟨_, _, rfl, HB3.out, HC3.out⟩, HW3.out⟩
set_option maxHeartbeats 1000000 in
theorem heldWorld_new (s : ByteArray) (w : World) (v : Value) (nb n k lo hi : Nat) (h : WldOwn lo hi w v s nb n (markF k)) (hn : n ≤ 3) (hk : k ≤ 1000000) :
    Calls Try.prog 8 #[v, .int .i64 k] w fun e w' => e = .returned (.int .i64 ((k + n * 4 : Nat) : Int)) ∧ Below w.heap.size w w' := by
  obtain ⟨vb, vc, rfl, hb, hc⟩ := h
  obtain ⟨ab, rfl⟩ := hb.form
  obtain ⟨ac, cc, rfl, -⟩ := hc.form
  have hk0 : ¬ ((k : Int) < 0) := by omega
  have hk1 : ¬ (((k + n * 4 : Nat) : Int) < 0) := by omega
  obtain ⟨w0, hw0⟩ : ∃ x, w.alloc (.cells #[.string s, .slice ab nb nb, .slice none 0 0, .slice ac n cc] 26) = x := ⟨_, rfl⟩
  have HB0 : Hid (Below w.heap.size w w0) := by rw [← hw0]; exact (Below.refl _ _).alloc (Nat.le_refl _) _
  have hX : w0.heap[w.heap.size]? = some (.cells #[.string s, .slice ab nb nb, .slice none 0 0, .slice ac n cc] 26 (0, 0)) := by rw [← hw0]; exact heap_alloc_last w _
  have x1 : w0.cell? ⟨w.heap.size, 1, none⟩ = some (.slice ab nb nb) := by rw [cell_of_row _ _ 1 _ _ _ hX]; rfl
  have x2 : w0.cell? ⟨w.heap.size, 2, none⟩ = some (.slice none 0 0) := by rw [cell_of_row _ _ 2 _ _ _ hX]; rfl
  have x3 : w0.cell? ⟨w.heap.size, 3, none⟩ = some (.slice ac n cc) := by rw [cell_of_row _ _ 3 _ _ _ hX]; rfl
  have H1 : Hid (BkAt w (.slice ab nb nb) nb) := hb
  have H3 : Hid (CliOwn lo hi w (.slice ac n cc) n (markF k)) := hc
  clear hb hc hX
  go_enter Try.func8, Try.ntmps8
  go_wp2_with fail
  clear hw0
  refine (heldBookS_new _ _ nb k (H1.out.below HB0.out)).mono ?_
  rintro e w1 ⟨rfl, he⟩
  rw [he]
  clear he
  go_wp2_with fail
  refine (heldStringS_nil _ _).mono ?_
  rintro e w2 ⟨rfl, he⟩
  rw [he]
  clear he
  go_wp2_with fail
  refine (heldClientS_new _ _ n k lo hi (RowOwn.below H3.out HB0.out) hn hk).mono ?_
  rintro e w3 ⟨rfl, hb3⟩
  have C3 : Hid (Below w.heap.size w w3) := HB0.out.trans (hb3.mono HB0.out.size)
  clear hb3 x1 x2 x3
  obtain ⟨K, hK⟩ : ∃ K : Nat, k + n * 4 = K := ⟨_, rfl⟩
  have HKK : Hid (k + n * 4 = K) := hK
  rw [hK] at hk1 ⊢
  clear hK
  go_wp2
  go_ret
  exact ⟨by rw [HKK.out]; rfl, C3.out⟩
end Go.Proofs.Ytfpkphkgnolkkaa
