/-
  Drawn affixes, of any kind.
-/
import Derived.Test.YthikcililececaaW29
namespace Go.Proofs.Ythikcililececaa
open Go.RowKit
set_option linter.unusedVariables false
set_option maxRecDepth 100000 in
set_option maxHeartbeats 4000000 in
theorem l13AnyAffix_any (w : World) (blk p : Nat) (h : RdAt w blk p) (hp : p ≤ 800000) :
    Calls Try.prog 46 #[.pointer (some ⟨blk, 0, none⟩)] w fun e w' => ∃ a : Aff, e = .returned (.agg a.cells) ∧ a.small ∧ (∃ q, RdAt w' blk q ∧ q ≤ p + 3) ∧ Kept blk w w' := by
  have hlt := h.lt
  go_enter Try.func46, Try.ntmps46
  go_wp2_with fail
  refine (l13Affix_any _ blk p (h.alloc _) (by omega)).mono ?_
  rintro e w1 ⟨⟨f, fr, st, ad, wh⟩, rfl, hsm, hr1, hk1⟩
  have hb0 : ¬ w.heap.size = blk := by omega
  have hB0 := (hk1.block w.heap.size (by simp only [World.size_alloc]; omega) hb0).trans (heap_alloc_last _ _)
  have hz1 : w.heap.size < w1.heap.size := by have := hk1.size; simp only [World.size_alloc] at this; omega
  have HK1 : Hid (Kept blk w w1) := Kept.trans ((Kept.refl blk w).alloc _) hk1
  have HR1 : Hid (RdAt w1 blk (p + 1)) := hr1
  have HB0 : Hid (w1.heap[w.heap.size]? = some (Obj.cells #[.string ⟨#[]⟩, .bool false, .string ⟨#[]⟩, .string ⟨#[]⟩, .string ⟨#[]⟩] 34 (0, 0))) := hB0
  have HSM : Hid (Aff.small ⟨f, fr, st, ad, wh⟩) := hsm
  clear hB0 hr1 hk1 h hsm
  unfold Aff.cells
  go_wp2_with fail
  refine (pick_any _ blk (p + 1) 12 (HR1.out.alloc _) (by omega) (by omega)).mono ?_
  rintro e w2 ⟨v, rfl, hv0, hv1, hr2, hk2⟩
  clear hv0 hv1
  have hne : ¬ w1.heap.size = w.heap.size := by omega
  have hne' : ¬ w.heap.size = w1.heap.size := by omega
  have hz2 : w1.heap.size < w2.heap.size := by have := hk2.size; simp only [World.size_alloc] at this; omega
  have HA2 : Hid (w2.heap[w1.heap.size]? = some (Obj.cells #[.string f, .bool fr, .string st, .string ad, .string wh] 34 (0, 0))) :=
    (hk2.block w1.heap.size (by simp only [World.size_alloc]; omega) (by omega)).trans (heap_alloc_last _ _)
  have HZ2 : Hid (w2.heap[w.heap.size]? = some (Obj.cells #[.string ⟨#[]⟩, .bool false, .string ⟨#[]⟩, .string ⟨#[]⟩, .string ⟨#[]⟩] 34 (0, 0))) :=
    (hk2.block w.heap.size (by simp only [World.size_alloc]; omega) (by omega)).trans ((((Below.refl _ _).alloc (Nat.le_refl _) _).block w.heap.size hz1).trans HB0.out)
  have HR2 : Hid (RdAt w2 blk (p + 1 + 1)) := hr2
  have HK2 : Hid (Kept blk w w2) := (HK1.out.alloc _).trans hk2
  clear hr2 hk2
  cases v0 : (v == 0) with
  | true =>
    go_wp2_with fail
    refine (of_any (fun s => s.size ≤ 20) _ blk (p + 1 + 1) _ 4 4 (HR2.out.alloc _) (by omega) (by omega) (by omega) (by intro i hi; refine lit_texts 20 _ _ _ ?_ i hi; decide +kernel) (by have := HR2.out.lt; omega)).mono ?_
    rintro e w3 ⟨s3, rfl, hs3, hr3, hk3⟩
    have Ha : Hid (w3.heap[w1.heap.size]? = some (Obj.cells #[.string f, .bool fr, .string st, .string ad, .string wh] 34 (0, 0))) :=
      ((((Kept.refl blk w2).alloc _).trans hk3).block w1.heap.size (by omega) (by omega)).trans HA2.out
    have Hz : Hid (w3.heap[w.heap.size]? = some (Obj.cells #[.string ⟨#[]⟩, .bool false, .string ⟨#[]⟩, .string ⟨#[]⟩, .string ⟨#[]⟩] 34 (0, 0))) :=
      ((((Kept.refl blk w2).alloc _).trans hk3).block w.heap.size (by omega) (by omega)).trans HZ2.out
    have HR3 : Hid (RdAt w3 blk (p + 1 + 1 + 1)) := hr3
    have HK3 : Hid (Kept blk w w3) := HK2.out.trans (((Kept.refl blk w2).alloc _).trans hk3)
    clear hr3 hk3
    have ca0 : w3.cell? ⟨w1.heap.size, 0, none⟩ = _ := cell_of_row _ _ 0 _ _ _ Ha.out
    have fa0 := Go.Joins.unfrozen_of_block Ha.out 0
    have ca1 : w3.cell? ⟨w1.heap.size, 1, none⟩ = _ := cell_of_row _ _ 1 _ _ _ Ha.out
    have fa1 := Go.Joins.unfrozen_of_block Ha.out 1
    have ca2 : w3.cell? ⟨w1.heap.size, 2, none⟩ = _ := cell_of_row _ _ 2 _ _ _ Ha.out
    have fa2 := Go.Joins.unfrozen_of_block Ha.out 2
    have ca3 : w3.cell? ⟨w1.heap.size, 3, none⟩ = _ := cell_of_row _ _ 3 _ _ _ Ha.out
    have fa3 := Go.Joins.unfrozen_of_block Ha.out 3
    have ca4 : w3.cell? ⟨w1.heap.size, 4, none⟩ = _ := cell_of_row _ _ 4 _ _ _ Ha.out
    have fa4 := Go.Joins.unfrozen_of_block Ha.out 4
    have cz0 : w3.cell? ⟨w.heap.size, 0, none⟩ = _ := cell_of_row _ _ 0 _ _ _ Hz.out
    have fz0 := Go.Joins.unfrozen_of_block Hz.out 0
    have cz1 : w3.cell? ⟨w.heap.size, 1, none⟩ = _ := cell_of_row _ _ 1 _ _ _ Hz.out
    have fz1 := Go.Joins.unfrozen_of_block Hz.out 1
    have cz2 : w3.cell? ⟨w.heap.size, 2, none⟩ = _ := cell_of_row _ _ 2 _ _ _ Hz.out
    have fz2 := Go.Joins.unfrozen_of_block Hz.out 2
    have cz3 : w3.cell? ⟨w.heap.size, 3, none⟩ = _ := cell_of_row _ _ 3 _ _ _ Hz.out
    have fz3 := Go.Joins.unfrozen_of_block Hz.out 3
    have cz4 : w3.cell? ⟨w.heap.size, 4, none⟩ = _ := cell_of_row _ _ 4 _ _ _ Hz.out
    have fz4 := Go.Joins.unfrozen_of_block Hz.out 4
    go_wp2_with fail
    refine bodyPost_ret (v := .agg #[.string s3, .bool fr, .string st, .string ad, .string wh]) (by simp [results, Try.results46, go_sem, cz0, cz1, cz2, cz3, cz4]) rfl ⟨⟨s3, fr, st, ad, wh⟩, rfl, ⟨hs3, HSM.out.2.1, HSM.out.2.2.1, HSM.out.2.2.2⟩, ⟨p + 1 + 1 + 1, ?_, by omega⟩, ?_⟩
    · exact ((((((HR3.out.setNew (Nat.lt_trans hlt hz1) _ _).setNew hlt _ _).setNew hlt _ _).setNew hlt _ _).setNew hlt _ _).setNew hlt _ _)
    · exact ((((((HK3.out.setNew (Nat.le_of_lt hz1) _ _).setNew (Nat.le_refl _) _ _).setNew (Nat.le_refl _) _ _).setNew (Nat.le_refl _) _ _).setNew (Nat.le_refl _) _ _).setNew (Nat.le_refl _) _ _)
  | false =>
    cases v1 : (v == 1) with
    | true =>
      go_wp2_with fail
      refine (of_any (fun s => s.size ≤ 20) _ blk (p + 1 + 1) _ 4 4 (HR2.out.alloc _) (by omega) (by omega) (by omega) (by intro i hi; refine lit_texts 20 _ _ _ ?_ i hi; decide +kernel) (by have := HR2.out.lt; omega)).mono ?_
      rintro e w3 ⟨s3, rfl, hs3, hr3, hk3⟩
      have Ha : Hid (w3.heap[w1.heap.size]? = some (Obj.cells #[.string f, .bool fr, .string st, .string ad, .string wh] 34 (0, 0))) :=
        ((((Kept.refl blk w2).alloc _).trans hk3).block w1.heap.size (by omega) (by omega)).trans HA2.out
      have Hz : Hid (w3.heap[w.heap.size]? = some (Obj.cells #[.string ⟨#[]⟩, .bool false, .string ⟨#[]⟩, .string ⟨#[]⟩, .string ⟨#[]⟩] 34 (0, 0))) :=
        ((((Kept.refl blk w2).alloc _).trans hk3).block w.heap.size (by omega) (by omega)).trans HZ2.out
      have HR3 : Hid (RdAt w3 blk (p + 1 + 1 + 1)) := hr3
      have HK3 : Hid (Kept blk w w3) := HK2.out.trans (((Kept.refl blk w2).alloc _).trans hk3)
      clear hr3 hk3
      have ca0 : w3.cell? ⟨w1.heap.size, 0, none⟩ = _ := cell_of_row _ _ 0 _ _ _ Ha.out
      have fa0 := Go.Joins.unfrozen_of_block Ha.out 0
      have ca1 : w3.cell? ⟨w1.heap.size, 1, none⟩ = _ := cell_of_row _ _ 1 _ _ _ Ha.out
      have fa1 := Go.Joins.unfrozen_of_block Ha.out 1
      have ca2 : w3.cell? ⟨w1.heap.size, 2, none⟩ = _ := cell_of_row _ _ 2 _ _ _ Ha.out
      have fa2 := Go.Joins.unfrozen_of_block Ha.out 2
      have ca3 : w3.cell? ⟨w1.heap.size, 3, none⟩ = _ := cell_of_row _ _ 3 _ _ _ Ha.out
      have fa3 := Go.Joins.unfrozen_of_block Ha.out 3
      have ca4 : w3.cell? ⟨w1.heap.size, 4, none⟩ = _ := cell_of_row _ _ 4 _ _ _ Ha.out
      have fa4 := Go.Joins.unfrozen_of_block Ha.out 4
      have cz0 : w3.cell? ⟨w.heap.size, 0, none⟩ = _ := cell_of_row _ _ 0 _ _ _ Hz.out
      have fz0 := Go.Joins.unfrozen_of_block Hz.out 0
      have cz1 : w3.cell? ⟨w.heap.size, 1, none⟩ = _ := cell_of_row _ _ 1 _ _ _ Hz.out
      have fz1 := Go.Joins.unfrozen_of_block Hz.out 1
      have cz2 : w3.cell? ⟨w.heap.size, 2, none⟩ = _ := cell_of_row _ _ 2 _ _ _ Hz.out
      have fz2 := Go.Joins.unfrozen_of_block Hz.out 2
      have cz3 : w3.cell? ⟨w.heap.size, 3, none⟩ = _ := cell_of_row _ _ 3 _ _ _ Hz.out
      have fz3 := Go.Joins.unfrozen_of_block Hz.out 3
      have cz4 : w3.cell? ⟨w.heap.size, 4, none⟩ = _ := cell_of_row _ _ 4 _ _ _ Hz.out
      have fz4 := Go.Joins.unfrozen_of_block Hz.out 4
      go_wp2_with fail
      refine bodyPost_ret (v := .agg #[.string f, .bool fr, .string s3, .string ad, .string wh]) (by simp [results, Try.results46, go_sem, cz0, cz1, cz2, cz3, cz4]) rfl ⟨⟨f, fr, s3, ad, wh⟩, rfl, ⟨HSM.out.1, hs3, HSM.out.2.2.1, HSM.out.2.2.2⟩, ⟨p + 1 + 1 + 1, ?_, by omega⟩, ?_⟩
      · exact ((((((HR3.out.setNew (Nat.lt_trans hlt hz1) _ _).setNew hlt _ _).setNew hlt _ _).setNew hlt _ _).setNew hlt _ _).setNew hlt _ _)
      · exact ((((((HK3.out.setNew (Nat.le_of_lt hz1) _ _).setNew (Nat.le_refl _) _ _).setNew (Nat.le_refl _) _ _).setNew (Nat.le_refl _) _ _).setNew (Nat.le_refl _) _ _).setNew (Nat.le_refl _) _ _)
    | false =>
      cases v2 : (v == 2) with
      | true =>
        go_wp2_with fail
        refine (of_any (fun s => s.size ≤ 20) _ blk (p + 1 + 1) _ 4 4 (HR2.out.alloc _) (by omega) (by omega) (by omega) (by intro i hi; refine lit_texts 20 _ _ _ ?_ i hi; decide +kernel) (by have := HR2.out.lt; omega)).mono ?_
        rintro e w3 ⟨s3, rfl, hs3, hr3, hk3⟩
        have Ha : Hid (w3.heap[w1.heap.size]? = some (Obj.cells #[.string f, .bool fr, .string st, .string ad, .string wh] 34 (0, 0))) :=
          ((((Kept.refl blk w2).alloc _).trans hk3).block w1.heap.size (by omega) (by omega)).trans HA2.out
        have Hz : Hid (w3.heap[w.heap.size]? = some (Obj.cells #[.string ⟨#[]⟩, .bool false, .string ⟨#[]⟩, .string ⟨#[]⟩, .string ⟨#[]⟩] 34 (0, 0))) :=
          ((((Kept.refl blk w2).alloc _).trans hk3).block w.heap.size (by omega) (by omega)).trans HZ2.out
        have HR3 : Hid (RdAt w3 blk (p + 1 + 1 + 1)) := hr3
        have HK3 : Hid (Kept blk w w3) := HK2.out.trans (((Kept.refl blk w2).alloc _).trans hk3)
        clear hr3 hk3
        have ca0 : w3.cell? ⟨w1.heap.size, 0, none⟩ = _ := cell_of_row _ _ 0 _ _ _ Ha.out
        have fa0 := Go.Joins.unfrozen_of_block Ha.out 0
        have ca1 : w3.cell? ⟨w1.heap.size, 1, none⟩ = _ := cell_of_row _ _ 1 _ _ _ Ha.out
        have fa1 := Go.Joins.unfrozen_of_block Ha.out 1
        have ca2 : w3.cell? ⟨w1.heap.size, 2, none⟩ = _ := cell_of_row _ _ 2 _ _ _ Ha.out
        have fa2 := Go.Joins.unfrozen_of_block Ha.out 2
        have ca3 : w3.cell? ⟨w1.heap.size, 3, none⟩ = _ := cell_of_row _ _ 3 _ _ _ Ha.out
        have fa3 := Go.Joins.unfrozen_of_block Ha.out 3
        have ca4 : w3.cell? ⟨w1.heap.size, 4, none⟩ = _ := cell_of_row _ _ 4 _ _ _ Ha.out
        have fa4 := Go.Joins.unfrozen_of_block Ha.out 4
        have cz0 : w3.cell? ⟨w.heap.size, 0, none⟩ = _ := cell_of_row _ _ 0 _ _ _ Hz.out
        have fz0 := Go.Joins.unfrozen_of_block Hz.out 0
        have cz1 : w3.cell? ⟨w.heap.size, 1, none⟩ = _ := cell_of_row _ _ 1 _ _ _ Hz.out
        have fz1 := Go.Joins.unfrozen_of_block Hz.out 1
        have cz2 : w3.cell? ⟨w.heap.size, 2, none⟩ = _ := cell_of_row _ _ 2 _ _ _ Hz.out
        have fz2 := Go.Joins.unfrozen_of_block Hz.out 2
        have cz3 : w3.cell? ⟨w.heap.size, 3, none⟩ = _ := cell_of_row _ _ 3 _ _ _ Hz.out
        have fz3 := Go.Joins.unfrozen_of_block Hz.out 3
        have cz4 : w3.cell? ⟨w.heap.size, 4, none⟩ = _ := cell_of_row _ _ 4 _ _ _ Hz.out
        have fz4 := Go.Joins.unfrozen_of_block Hz.out 4
        go_wp2_with fail
        refine bodyPost_ret (v := .agg #[.string f, .bool fr, .string st, .string ad, .string s3]) (by simp [results, Try.results46, go_sem, cz0, cz1, cz2, cz3, cz4]) rfl ⟨⟨f, fr, st, ad, s3⟩, rfl, ⟨HSM.out.1, HSM.out.2.1, HSM.out.2.2.1, hs3⟩, ⟨p + 1 + 1 + 1, ?_, by omega⟩, ?_⟩
        · exact ((((((HR3.out.setNew (Nat.lt_trans hlt hz1) _ _).setNew hlt _ _).setNew hlt _ _).setNew hlt _ _).setNew hlt _ _).setNew hlt _ _)
        · exact ((((((HK3.out.setNew (Nat.le_of_lt hz1) _ _).setNew (Nat.le_refl _) _ _).setNew (Nat.le_refl _) _ _).setNew (Nat.le_refl _) _ _).setNew (Nat.le_refl _) _ _).setNew (Nat.le_refl _) _ _)
      | false =>
        have Ha : Hid (w2.heap[w1.heap.size]? = some (Obj.cells #[.string f, .bool fr, .string st, .string ad, .string wh] 34 (0, 0))) := HA2.out
        have Hz : Hid (w2.heap[w.heap.size]? = some (Obj.cells #[.string ⟨#[]⟩, .bool false, .string ⟨#[]⟩, .string ⟨#[]⟩, .string ⟨#[]⟩] 34 (0, 0))) := HZ2.out
        have ca0 : w2.cell? ⟨w1.heap.size, 0, none⟩ = _ := cell_of_row _ _ 0 _ _ _ Ha.out
        have fa0 := Go.Joins.unfrozen_of_block Ha.out 0
        have ca1 : w2.cell? ⟨w1.heap.size, 1, none⟩ = _ := cell_of_row _ _ 1 _ _ _ Ha.out
        have fa1 := Go.Joins.unfrozen_of_block Ha.out 1
        have ca2 : w2.cell? ⟨w1.heap.size, 2, none⟩ = _ := cell_of_row _ _ 2 _ _ _ Ha.out
        have fa2 := Go.Joins.unfrozen_of_block Ha.out 2
        have ca3 : w2.cell? ⟨w1.heap.size, 3, none⟩ = _ := cell_of_row _ _ 3 _ _ _ Ha.out
        have fa3 := Go.Joins.unfrozen_of_block Ha.out 3
        have ca4 : w2.cell? ⟨w1.heap.size, 4, none⟩ = _ := cell_of_row _ _ 4 _ _ _ Ha.out
        have fa4 := Go.Joins.unfrozen_of_block Ha.out 4
        have cz0 : w2.cell? ⟨w.heap.size, 0, none⟩ = _ := cell_of_row _ _ 0 _ _ _ Hz.out
        have fz0 := Go.Joins.unfrozen_of_block Hz.out 0
        have cz1 : w2.cell? ⟨w.heap.size, 1, none⟩ = _ := cell_of_row _ _ 1 _ _ _ Hz.out
        have fz1 := Go.Joins.unfrozen_of_block Hz.out 1
        have cz2 : w2.cell? ⟨w.heap.size, 2, none⟩ = _ := cell_of_row _ _ 2 _ _ _ Hz.out
        have fz2 := Go.Joins.unfrozen_of_block Hz.out 2
        have cz3 : w2.cell? ⟨w.heap.size, 3, none⟩ = _ := cell_of_row _ _ 3 _ _ _ Hz.out
        have fz3 := Go.Joins.unfrozen_of_block Hz.out 3
        have cz4 : w2.cell? ⟨w.heap.size, 4, none⟩ = _ := cell_of_row _ _ 4 _ _ _ Hz.out
        have fz4 := Go.Joins.unfrozen_of_block Hz.out 4
        cases v3 : (v == 3) with
        | true =>
          go_wp2_with fail
          refine bodyPost_ret (v := .agg #[.string f, .bool (!fr), .string st, .string ad, .string wh]) (by simp [results, Try.results46, go_sem, cz0, cz1, cz2, cz3, cz4]) rfl ⟨⟨f, !fr, st, ad, wh⟩, rfl, HSM.out, ⟨p + 1 + 1, ?_, by omega⟩, ?_⟩
          · exact ((((((HR2.out.setNew (Nat.lt_trans hlt hz1) _ _).setNew hlt _ _).setNew hlt _ _).setNew hlt _ _).setNew hlt _ _).setNew hlt _ _)
          · exact ((((((HK2.out.setNew (Nat.le_of_lt hz1) _ _).setNew (Nat.le_refl _) _ _).setNew (Nat.le_refl _) _ _).setNew (Nat.le_refl _) _ _).setNew (Nat.le_refl _) _ _).setNew (Nat.le_refl _) _ _)
        | false =>
          go_wp2_with fail
          refine bodyPost_ret (v := .agg #[.string f, .bool fr, .string st, .string ad, .string wh]) (by simp [results, Try.results46, go_sem, cz0, cz1, cz2, cz3, cz4]) rfl ⟨⟨f, fr, st, ad, wh⟩, rfl, HSM.out, ⟨p + 1 + 1, ?_, by omega⟩, ?_⟩
          · exact (((((HR2.out.setNew hlt _ _).setNew hlt _ _).setNew hlt _ _).setNew hlt _ _).setNew hlt _ _)
          · exact (((((HK2.out.setNew (Nat.le_refl _) _ _).setNew (Nat.le_refl _) _ _).setNew (Nat.le_refl _) _ _).setNew (Nat.le_refl _) _ _).setNew (Nat.le_refl _) _ _)
end Go.Proofs.Ythikcililececaa
