/-
  An affix and a stem, or a word, as they are drawn.
-/
import Derived.Test.YtaldbaapfdpbgaaW30
import Derived.Test.YtaldbaapfdpbgaaW28
namespace Go.Proofs.Ytaldbaapfdpbgaa
open Go.RowKit
set_option linter.unusedVariables false
theorem cell_lt {w : World} {p : Addr} {v : Value} (h : w.cell? p = some v) : p.block < w.heap.size := by
  rcases Nat.lt_or_ge p.block w.heap.size with hlt | hge
  · exact hlt
  · unfold World.cell? at h
    rw [Array.getElem?_eq_none hge] at h
    simp at h
theorem all7 {p : Value → Bool} {a b c d e f g : Value} (h1 : #[a, b, c, d, e, f].all p = true) (h2 : p g = true) : #[a, b, c, d, e, f, g].all p = true := by
  simp only [List.all_toArray, List.all_cons, List.all_nil, Bool.and_eq_true, Bool.and_true] at h1 ⊢
  exact ⟨h1.1, h1.2.1, h1.2.2.1, h1.2.2.2.1, h1.2.2.2.2.1, h1.2.2.2.2.2, h2⟩
theorem IsRow.keep {k : IntKind} {w w' : World} {a : Option Addr} {len cap : Nat} {zs : List Int} (h : IsRow k w a len cap zs) (hb : Below w.heap.size w w') : IsRow k w' a len cap zs := by
  rcases h with h | ⟨x, h1, h2, h3, h4, h5, h6⟩
  · exact .inl h
  · exact .inr ⟨x, h1, h2, h3, h4, fun i hi => (hb.cell (cell_lt (h5 i hi))).trans (h5 i hi), h6⟩
set_option maxRecDepth 100000 in
set_option maxHeartbeats 2000000 in
theorem drawAffixDo_any (w : World) (a : Option Addr) (len cap : Nat) (zs : List Int) (h : IsRow .u8 w a len cap zs) :
    Calls Try.prog 32 #[.slice a len cap] w fun e w' => ∃ (a : Aff) (s : ByteArray), e = .returned (.tuple #[.agg a.cells, .string s]) ∧ a.small ∧ s.size ≤ 20 ∧ Below w.heap.size w w' := by
  have HI : Hid (IsRow .u8 w a len cap zs) := h
  clear h
  go_enter Try.func32, Try.ntmps32
  go_wp2_with fail
  refine (open_any _ a len cap zs (HI.out.keep ((Below.refl _ _).alloc (Nat.le_refl _) _))).mono ?_
  rintro e w1 ⟨rfl, hr1, hb1⟩
  have hB1 : w1.heap[w.heap.size]? = some (Obj.cells #[.string ⟨#[]⟩, .bool false, .string ⟨#[]⟩, .string ⟨#[]⟩, .string ⟨#[]⟩] 38 (0, 0)) := (hb1.block w.heap.size (by simp only [World.size_alloc]; omega)).trans (heap_alloc_last _ _)
  have hz1 : w.heap.size + 1 ≤ w1.heap.size := by have := hb1.size; simp only [World.size_alloc] at this; omega
  have hb1' : Below w.heap.size w w1 := ((Below.refl _ _).alloc (Nat.le_refl _) _).trans (hb1.mono (by simp))
  simp only [World.size_alloc] at hr1 ⊢
  have HR1 : Hid (RdAt w1 (w.heap.size + 1) 0) := hr1
  have HB1 : Hid (Below w.heap.size w w1) := hb1'
  have HZ1 : Hid _ := hB1
  clear hr1 hb1 hb1' hB1
  go_wp2_with fail
  refine (l13AnyAffix_any _ _ 0 HR1.out (by omega)).mono ?_
  rintro e w2 ⟨⟨f, fr, st, ad, wh⟩, rfl, hsm, ⟨q2, hr2, hq2⟩, hk2⟩
  have HR2 : Hid (RdAt w2 (w.heap.size + 1) q2) := hr2
  have HK2 : Hid (Kept (w.heap.size + 1) w1 w2) := hk2
  have HSM : Hid (Aff.small ⟨f, fr, st, ad, wh⟩) := hsm
  clear hr2 hk2 hsm
  unfold Aff.cells
  go_wp2_with fail
  refine (l13AnyWord_any _ _ q2 HR2.out (by omega)).mono ?_
  rintro e w3 ⟨s, rfl, hs, ⟨q3, hr3, hq3⟩, hk3⟩
  unfold Drawn at hs
  have HR3 : Hid (RdAt w3 (w.heap.size + 1) q3) := hr3
  have HK3 : Hid (Kept (w.heap.size + 1) w1 w3) := HK2.out.trans hk3
  clear hr3 hk3
  go_wp2_with fail
  refine (of_any (fun s => s.size ≤ 20) _ _ q3 _ 7 7 (HR3.out.alloc _) (by omega) (by omega) (by omega) (by intro i hi; refine lit_texts 20 _ _ _ ?_ i hi; exact all7 (by decide +kernel) (by simpa [shortV] using hs)) (by have := HR3.out.lt; omega)).mono ?_
  rintro e w4 ⟨t, rfl, ht, hr4, hk4⟩
  have HK4 : Hid (Kept (w.heap.size + 1) w1 w4) := (HK3.out.alloc _).trans hk4
  have Hz : Hid (w4.heap[w.heap.size]? = some (Obj.cells #[.string ⟨#[]⟩, .bool false, .string ⟨#[]⟩, .string ⟨#[]⟩, .string ⟨#[]⟩] 38 (0, 0))) := (HK4.out.block w.heap.size (by omega) (by omega)).trans HZ1.out
  clear hr4 hk4
  have c0 : w4.cell? ⟨w.heap.size, 0, none⟩ = _ := cell_of_row _ _ 0 _ _ _ Hz.out
  have f0 := Go.Joins.unfrozen_of_block Hz.out 0
  have c1 : w4.cell? ⟨w.heap.size, 1, none⟩ = _ := cell_of_row _ _ 1 _ _ _ Hz.out
  have f1 := Go.Joins.unfrozen_of_block Hz.out 1
  have c2 : w4.cell? ⟨w.heap.size, 2, none⟩ = _ := cell_of_row _ _ 2 _ _ _ Hz.out
  have f2 := Go.Joins.unfrozen_of_block Hz.out 2
  have c3 : w4.cell? ⟨w.heap.size, 3, none⟩ = _ := cell_of_row _ _ 3 _ _ _ Hz.out
  have f3 := Go.Joins.unfrozen_of_block Hz.out 3
  have c4 : w4.cell? ⟨w.heap.size, 4, none⟩ = _ := cell_of_row _ _ 4 _ _ _ Hz.out
  have f4 := Go.Joins.unfrozen_of_block Hz.out 4
  go_wp2_with fail
  refine bodyPost_ret (v := .tuple #[.agg #[.string f, .bool fr, .string st, .string ad, .string wh], .string t]) (by simp [results, Try.results32, go_sem, c0, c1, c2, c3, c4]) rfl ⟨⟨f, fr, st, ad, wh⟩, t, rfl, HSM.out, ht, ?_⟩
  have hb := HK4.out.below HB1.out (by omega)
  exact ((((hb.setCell (Nat.le_refl _) _).setCell (Nat.le_refl _) _).setCell (Nat.le_refl _) _).setCell (Nat.le_refl _) _).setCell (Nat.le_refl _) _
end Go.Proofs.Ytaldbaapfdpbgaa
