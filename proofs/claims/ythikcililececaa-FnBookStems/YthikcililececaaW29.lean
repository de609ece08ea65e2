/-
  Drawn affixes.
-/
import Derived.Test.YthikcililececaaW21
import Derived.Test.YthikcililececaaW16
namespace Go.Proofs.Ythikcililececaa
open Go.RowKit
set_option linter.unusedVariables false
/-- An affix with short texts. -/
def Aff.small (a : Aff) : Prop := a.flag.size ≤ 20 ∧ a.strip.size ≤ 20 ∧ a.add.size ≤ 20 ∧ a.wh.size ≤ 20
theorem Aff.small.fits {a : Aff} (h : a.small) : a.fits := by
  obtain ⟨h1, h2, h3, h4⟩ := h
  unfold Aff.fits maxLen
  omega
theorem alloc_first (w : World) (o1 o2 : Obj) : ((w.alloc o1).alloc o2).heap[w.heap.size]? = some o1 :=
  (((Below.refl _ _).alloc (Nat.le_refl _) o2).block w.heap.size (by rw [World.size_alloc]; omega)).trans (heap_alloc_last w o1)
theorem Kept.setNew {blk : Nat} {w x : World} (h : Kept blk w x) {b : Nat} (hb : w.heap.size ≤ b) (i : Nat) (v : Value) : Kept blk w (x.setCell ⟨b, i, none⟩ v) :=
  ⟨h.os, h.tape, h.output, by simpa using h.size, fun k hk hn => (Below.heap_setCell x _ v k (by show k ≠ b; omega)).trans (h.block k hk hn)⟩
theorem RdAt.setNew {w : World} {blk p : Nat} (h : RdAt w blk p) {b : Nat} (hb : blk < b) (i : Nat) (v : Value) : RdAt (w.setCell ⟨b, i, none⟩ v) blk p := by
  obtain ⟨a, len, cap, h1, h2, h3⟩ := h
  refine ⟨a, len, cap, (Below.heap_setCell w _ v blk (by show blk ≠ b; omega)).trans h1, h2, ?_⟩
  rcases h3 with h3 | ⟨b', off, ha, hb', hc⟩
  · exact .inl h3
  · refine .inr ⟨b', off, ha, hb', fun i' hi => ?_⟩
    obtain ⟨z, hz, hz1⟩ := hc i' hi
    refine ⟨z, ?_, hz1⟩
    rw [← hz]
    exact World.cell?_of_block (w := w) (Below.heap_setCell w _ _ _ (by show b' ≠ b; omega))
set_option maxRecDepth 100000 in
set_option maxHeartbeats 2000000 in
theorem l13Affix_any (w : World) (blk p : Nat) (h : RdAt w blk p) (hp : p ≤ 900000) :
    Calls Try.prog 63 #[.pointer (some ⟨blk, 0, none⟩)] w fun e w' => ∃ a : Aff, e = .returned (.agg a.cells) ∧ a.small ∧ RdAt w' blk (p + 1) ∧ Kept blk w w' := by
  go_enter Try.func63, Try.ntmps63
  go_wp2_with fail
  refine (pick_any _ blk p 8 ((h.alloc _).alloc _) (by omega) (by omega)).mono ?_
  rintro e w1 ⟨v, rfl, hv0, hv1, hr1, hk1⟩
  have hv2 := hv1 (by omega)
  have hlt := h.lt
  have hc1 : ∀ b o, b < w.heap.size + 2 → ¬ b = blk → w1.cell? ⟨b, o, none⟩ = _ := fun b o hb hn => hk1.cell (p := ⟨b, o, none⟩) (by simpa using hb) hn
  have hb0 : ¬ w.heap.size = blk := by omega
  have hb1 : ¬ w.heap.size + 1 = blk := by omega
  have hz1 : w.heap.size + 1 < w1.heap.size := by have := hk1.size; simp at this; omega
  have hB := (hk1.block w.heap.size (by simp only [World.size_alloc]; omega) hb0).trans (alloc_first _ _ _)
  have f0 := Go.Joins.unfrozen_of_block hB 0
  have f1 := Go.Joins.unfrozen_of_block hB 1
  have f2 := Go.Joins.unfrozen_of_block hB 2
  have f3 := Go.Joins.unfrozen_of_block hB 3
  have f4 := Go.Joins.unfrozen_of_block hB 4
  have c0 : w1.cell? ⟨w.heap.size, 0, none⟩ = _ := cell_of_row _ _ 0 _ _ _ hB
  have c1 : w1.cell? ⟨w.heap.size, 1, none⟩ = _ := cell_of_row _ _ 1 _ _ _ hB
  have c2 : w1.cell? ⟨w.heap.size, 2, none⟩ = _ := cell_of_row _ _ 2 _ _ _ hB
  have c3 : w1.cell? ⟨w.heap.size, 3, none⟩ = _ := cell_of_row _ _ 3 _ _ _ hB
  have c4 : w1.cell? ⟨w.heap.size, 4, none⟩ = _ := cell_of_row _ _ 4 _ _ _ hB
  clear hB
  have HR1 : Hid (RdAt w1 blk (p + 1)) := hr1
  have HK1 : Hid (Kept blk w w1) := Kept.trans ((Kept.refl blk w).alloc _ |>.alloc _) hk1
  clear hr1 hk1 hv1
  have hv3 : v = 0 ∨ v = 1 ∨ v = 2 ∨ v = 3 ∨ v = 4 ∨ v = 5 ∨ v = 6 ∨ v = 7 := by omega
  clear hv0 hv2
  rcases hv3 with rfl | rfl | rfl | rfl | rfl | rfl | rfl | rfl
  · go_wp2_with fail
    refine bodyPost_ret (v := .agg #[.string ⟨#[83]⟩, .bool false, .string ⟨#[]⟩, .string ⟨#[115]⟩, .string ⟨#[]⟩]) (by simp [results, Try.results63, go_sem, c0, c1, c2, c3, c4]) rfl ⟨⟨⟨#[83]⟩, false, ⟨#[]⟩, ⟨#[115]⟩, ⟨#[]⟩⟩, rfl, by unfold Aff.small; decide, ?_, ?_⟩
    · exact ((((HR1.out.setNew hlt _ _).setNew hlt _ _).setNew hlt _ _).setNew hlt _ _).setNew hlt _ _
    · exact ((((HK1.out.setNew (Nat.le_refl _) _ _).setNew (Nat.le_refl _) _ _).setNew (Nat.le_refl _) _ _).setNew (Nat.le_refl _) _ _).setNew (Nat.le_refl _) _ _
  · go_wp2_with fail
    refine bodyPost_ret (v := .agg #[.string ⟨#[83]⟩, .bool false, .string ⟨#[121]⟩, .string ⟨#[105, 101, 115]⟩, .string ⟨#[121]⟩]) (by simp [results, Try.results63, go_sem, c0, c1, c2, c3, c4]) rfl ⟨⟨⟨#[83]⟩, false, ⟨#[121]⟩, ⟨#[105, 101, 115]⟩, ⟨#[121]⟩⟩, rfl, by unfold Aff.small; decide, ?_, ?_⟩
    · exact ((((HR1.out.setNew hlt _ _).setNew hlt _ _).setNew hlt _ _).setNew hlt _ _).setNew hlt _ _
    · exact ((((HK1.out.setNew (Nat.le_refl _) _ _).setNew (Nat.le_refl _) _ _).setNew (Nat.le_refl _) _ _).setNew (Nat.le_refl _) _ _).setNew (Nat.le_refl _) _ _
  · go_wp2_with fail
    refine bodyPost_ret (v := .agg #[.string ⟨#[71]⟩, .bool false, .string ⟨#[]⟩, .string ⟨#[105, 110, 103]⟩, .string ⟨#[]⟩]) (by simp [results, Try.results63, go_sem, c0, c1, c2, c3, c4]) rfl ⟨⟨⟨#[71]⟩, false, ⟨#[]⟩, ⟨#[105, 110, 103]⟩, ⟨#[]⟩⟩, rfl, by unfold Aff.small; decide, ?_, ?_⟩
    · exact ((((HR1.out.setNew hlt _ _).setNew hlt _ _).setNew hlt _ _).setNew hlt _ _).setNew hlt _ _
    · exact ((((HK1.out.setNew (Nat.le_refl _) _ _).setNew (Nat.le_refl _) _ _).setNew (Nat.le_refl _) _ _).setNew (Nat.le_refl _) _ _).setNew (Nat.le_refl _) _ _
  · go_wp2_with fail
    refine bodyPost_ret (v := .agg #[.string ⟨#[71]⟩, .bool false, .string ⟨#[101]⟩, .string ⟨#[105, 110, 103]⟩, .string ⟨#[101]⟩]) (by simp [results, Try.results63, go_sem, c0, c1, c2, c3, c4]) rfl ⟨⟨⟨#[71]⟩, false, ⟨#[101]⟩, ⟨#[105, 110, 103]⟩, ⟨#[101]⟩⟩, rfl, by unfold Aff.small; decide, ?_, ?_⟩
    · exact ((((HR1.out.setNew hlt _ _).setNew hlt _ _).setNew hlt _ _).setNew hlt _ _).setNew hlt _ _
    · exact ((((HK1.out.setNew (Nat.le_refl _) _ _).setNew (Nat.le_refl _) _ _).setNew (Nat.le_refl _) _ _).setNew (Nat.le_refl _) _ _).setNew (Nat.le_refl _) _ _
  · go_wp2_with fail
    refine bodyPost_ret (v := .agg #[.string ⟨#[85]⟩, .bool true, .string ⟨#[]⟩, .string ⟨#[117, 110]⟩, .string ⟨#[]⟩]) (by simp [results, Try.results63, go_sem, c0, c1, c2, c3, c4]) rfl ⟨⟨⟨#[85]⟩, true, ⟨#[]⟩, ⟨#[117, 110]⟩, ⟨#[]⟩⟩, rfl, by unfold Aff.small; decide, ?_, ?_⟩
    · exact ((((HR1.out.setNew hlt _ _).setNew hlt _ _).setNew hlt _ _).setNew hlt _ _).setNew hlt _ _
    · exact ((((HK1.out.setNew (Nat.le_refl _) _ _).setNew (Nat.le_refl _) _ _).setNew (Nat.le_refl _) _ _).setNew (Nat.le_refl _) _ _).setNew (Nat.le_refl _) _ _
  · go_wp2_with fail
    refine bodyPost_ret (v := .agg #[.string ⟨#[82]⟩, .bool true, .string ⟨#[97]⟩, .string ⟨#[98]⟩, .string ⟨#[97]⟩]) (by simp [results, Try.results63, go_sem, c0, c1, c2, c3, c4]) rfl ⟨⟨⟨#[82]⟩, true, ⟨#[97]⟩, ⟨#[98]⟩, ⟨#[97]⟩⟩, rfl, by unfold Aff.small; decide, ?_, ?_⟩
    · exact ((((HR1.out.setNew hlt _ _).setNew hlt _ _).setNew hlt _ _).setNew hlt _ _).setNew hlt _ _
    · exact ((((HK1.out.setNew (Nat.le_refl _) _ _).setNew (Nat.le_refl _) _ _).setNew (Nat.le_refl _) _ _).setNew (Nat.le_refl _) _ _).setNew (Nat.le_refl _) _ _
  · go_wp2_with fail
    refine bodyPost_ret (v := .agg #[.string ⟨#[84]⟩, .bool false, .string ⟨#[]⟩, .string ⟨#[116]⟩, .string ⟨#[97, 99]⟩]) (by simp [results, Try.results63, go_sem, c0, c1, c2, c3, c4]) rfl ⟨⟨⟨#[84]⟩, false, ⟨#[]⟩, ⟨#[116]⟩, ⟨#[97, 99]⟩⟩, rfl, by unfold Aff.small; decide, ?_, ?_⟩
    · exact ((((HR1.out.setNew hlt _ _).setNew hlt _ _).setNew hlt _ _).setNew hlt _ _).setNew hlt _ _
    · exact ((((HK1.out.setNew (Nat.le_refl _) _ _).setNew (Nat.le_refl _) _ _).setNew (Nat.le_refl _) _ _).setNew (Nat.le_refl _) _ _).setNew (Nat.le_refl _) _ _
  · go_wp2_with fail
    refine bodyPost_ret (v := .agg #[.string ⟨#[67]⟩, .bool false, .string ⟨#[]⟩, .string ⟨#[97, 98, 99]⟩, .string ⟨#[]⟩]) (by simp [results, Try.results63, go_sem, c0, c1, c2, c3, c4]) rfl ⟨⟨⟨#[67]⟩, false, ⟨#[]⟩, ⟨#[97, 98, 99]⟩, ⟨#[]⟩⟩, rfl, by unfold Aff.small; decide, ?_, ?_⟩
    · exact ((((HR1.out.setNew hlt _ _).setNew hlt _ _).setNew hlt _ _).setNew hlt _ _).setNew hlt _ _
    · exact ((((HK1.out.setNew (Nat.le_refl _) _ _).setNew (Nat.le_refl _) _ _).setNew (Nat.le_refl _) _ _).setNew (Nat.le_refl _) _ _).setNew (Nat.le_refl _) _ _
end Go.Proofs.Ythikcililececaa
