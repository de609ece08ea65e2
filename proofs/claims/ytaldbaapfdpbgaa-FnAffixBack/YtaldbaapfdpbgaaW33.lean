/-
  The law FnAffixBack returns true.
-/
import Derived.Test.YtaldbaapfdpbgaaW32
namespace Go.Proofs.Ytaldbaapfdpbgaa
open Go.RowKit
set_option linter.unusedVariables false
/-- Words. -/
def wordV : Value → Bool
  | .string s => wok s
  | _ => false
theorem at5_of {w : World} {b : Nat} {f : ByteArray} {fr : Bool} {st ad wh : ByteArray} {t : TypeId} (hB : w.heap[b]? = some (Obj.cells #[.string f, .bool fr, .string st, .string ad, .string wh] t (0, 0))) : At5 b f fr st ad wh w :=
  ⟨(cell_of_row _ _ 0 _ _ _ hB).trans rfl, (cell_of_row _ _ 1 _ _ _ hB).trans rfl, (cell_of_row _ _ 2 _ _ _ hB).trans rfl, (cell_of_row _ _ 3 _ _ _ hB).trans rfl, (cell_of_row _ _ 4 _ _ _ hB).trans rfl⟩
theorem lit_words (w : World) (cs : Array Value) (t : TypeId) (h : cs.all wordV = true) : ∀ i, i < cs.size → ∃ s : ByteArray, (w.alloc (.cells cs t)).cell? ⟨w.heap.size, i, none⟩ = some (.string s) ∧ wok s = true := by
  intro i hi
  rw [cell_of_row _ _ i cs t (0, 0) (heap_alloc_last w _), Array.getElem?_eq_getElem hi]
  have := (Array.all_eq_true.1 h) i hi
  revert this
  generalize cs[i] = v
  intro hv
  unfold wordV at hv
  split at hv
  · next s => exact ⟨s, rfl, hv⟩
  · cases hv
set_option maxRecDepth 100000 in
set_option maxHeartbeats 1500000 in
theorem drawAffixBack_any (w : World) (a : Option Addr) (len cap : Nat) (zs : List Int) (h : IsRow .u8 w a len cap zs) :
    Calls Try.prog 38 #[.slice a len cap] w fun e w' => ∃ (a : Aff) (s : ByteArray), e = .returned (.tuple #[.agg a.cells, .string s]) ∧ a.small ∧ s.size ≤ 20 ∧ Below w.heap.size w w' := by
  have HI : Hid (IsRow .u8 w a len cap zs) := h
  clear h
  go_enter Try.func38, Try.ntmps38
  go_wp2_with fail
  refine (open_any _ a len cap zs (HI.out.keep ((Below.refl _ _).alloc (Nat.le_refl _) _))).mono ?_
  rintro e w1 ⟨rfl, hr1, hb1⟩
  have hB1 : w1.heap[w.heap.size]? = some (Obj.cells #[.string ⟨#[]⟩, .bool false, .string ⟨#[]⟩, .string ⟨#[]⟩, .string ⟨#[]⟩] 38 (0, 0)) := (hb1.block w.heap.size (by simp only [World.size_alloc]; omega)).trans (heap_alloc_last _ _)
  have hz1 : w.heap.size + 1 ≤ w1.heap.size := by have := hb1.size; simp only [World.size_alloc] at this; omega
  have hb1' : Below w.heap.size w w1 := ((Below.refl _ _).alloc (Nat.le_refl _) _).trans (hb1.mono (by simp))
  simp only [World.size_alloc] at hr1 ⊢
  have hz1' := hr1.lt
  have HR1 : Hid (RdAt w1 (w.heap.size + 1) 0) := hr1
  have HB1 : Hid (Below w.heap.size w w1) := hb1'
  have HZ1 : Hid (w1.heap[w.heap.size]? = some (Obj.cells #[.string ⟨#[]⟩, .bool false, .string ⟨#[]⟩, .string ⟨#[]⟩, .string ⟨#[]⟩] 38 (0, 0))) := hB1
  clear hr1 hb1 hb1' hB1
  go_wp2_with fail
  refine (l13AnyAffix_any _ _ 0 HR1.out (by omega)).mono ?_
  rintro e w2 ⟨⟨f, fr, st, ad, wh⟩, rfl, hsm, ⟨q2, hr2, hq2⟩, hk2⟩
  have hz2 : w.heap.size + 1 < w2.heap.size := by have := hk2.size; omega
  have HR2 : Hid (RdAt w2 (w.heap.size + 1) q2) := hr2
  have HB2 : Hid (Below w.heap.size w (w2.alloc (Obj.cells #[.string f, .bool fr, .string st, .string ad, .string wh] 38 (0, 0)))) := (hk2.below HB1.out (by omega)).alloc (by omega) _
  have HZ2 : Hid ((w2.alloc (Obj.cells #[.string f, .bool fr, .string st, .string ad, .string wh] 38 (0, 0))).heap[w.heap.size]? = some (Obj.cells #[.string ⟨#[]⟩, .bool false, .string ⟨#[]⟩, .string ⟨#[]⟩, .string ⟨#[]⟩] 38 (0, 0))) := (((Below.refl _ _).alloc (Nat.le_refl _) _).block w.heap.size (by omega)).trans ((hk2.block w.heap.size (by omega) (by omega)).trans HZ1.out)
  have HSM : Hid (Aff.small ⟨f, fr, st, ad, wh⟩) := hsm
  clear hr2 hk2 hsm
  have HL : Hid (∀ i, i < 7 → ∃ s : ByteArray, ((w2.alloc (Obj.cells #[.string f, .bool fr, .string st, .string ad, .string wh] 38 (0, 0))).alloc (.cells #[.string ⟨#[116, 114, 121]⟩, .string ⟨#[98, 97, 107, 101]⟩, .string ⟨#[97, 99, 116]⟩, .string ⟨#[116, 97, 99]⟩, .string ⟨#[97]⟩, .string ⟨#[100, 111]⟩, .string ⟨#[99, 97, 116]⟩] 9)).cell? ⟨w2.heap.size + 1, i, none⟩ = some (.string s) ∧ wok s = true) := by
    have := lit_words (w2.alloc (Obj.cells #[.string f, .bool fr, .string st, .string ad, .string wh] 38 (0, 0))) #[.string ⟨#[116, 114, 121]⟩, .string ⟨#[98, 97, 107, 101]⟩, .string ⟨#[97, 99, 116]⟩, .string ⟨#[116, 97, 99]⟩, .string ⟨#[97]⟩, .string ⟨#[100, 111]⟩, .string ⟨#[99, 97, 116]⟩] 9 (by decide +kernel)
    rw [World.size_alloc] at this
    exact this
  unfold Aff.cells
  go_wp2_with fail
  refine (of_any (fun s => wok s = true) _ _ q2 _ 7 7 ((HR2.out.alloc _).alloc _) (by omega) (by omega) (by omega) HL.out (by omega)).mono ?_
  rintro e w3 ⟨s, rfl, hs, hr3, hk3⟩
  have HW : Hid (wok s = true) := hs
  have HR3 : Hid (RdAt w3 (w.heap.size + 1) (q2 + 1)) := hr3
  have HK3 : Hid (Kept (w.heap.size + 1) (w2.alloc (Obj.cells #[.string f, .bool fr, .string st, .string ad, .string wh] 38 (0, 0))) w3) := ((Kept.refl _ _).alloc _).trans hk3
  have hz3 : w2.heap.size < w3.heap.size := by have := HK3.out.size; simp only [World.size_alloc] at this; omega
  clear hs hr3 hk3
  have Ha : Hid (w3.heap[w2.heap.size]? = some (Obj.cells #[.string f, .bool fr, .string st, .string ad, .string wh] 38 (0, 0))) := (HK3.out.block w2.heap.size (by simp only [World.size_alloc]; omega) (by omega)).trans (heap_alloc_last _ _)
  have Hz : Hid (w3.heap[w.heap.size]? = some (Obj.cells #[.string ⟨#[]⟩, .bool false, .string ⟨#[]⟩, .string ⟨#[]⟩, .string ⟨#[]⟩] 38 (0, 0))) := (HK3.out.block w.heap.size (by simp only [World.size_alloc]; omega) (by omega)).trans HZ2.out
  have ca0 : w3.cell? ⟨w2.heap.size, 0, none⟩ = _ := cell_of_row _ _ 0 _ _ _ Ha.out
  have fa0 := Go.Joins.unfrozen_of_block Ha.out 0
  have ca1 : w3.cell? ⟨w2.heap.size, 1, none⟩ = _ := cell_of_row _ _ 1 _ _ _ Ha.out
  have fa1 := Go.Joins.unfrozen_of_block Ha.out 1
  have ca2 : w3.cell? ⟨w2.heap.size, 2, none⟩ = _ := cell_of_row _ _ 2 _ _ _ Ha.out
  have fa2 := Go.Joins.unfrozen_of_block Ha.out 2
  have ca3 : w3.cell? ⟨w2.heap.size, 3, none⟩ = _ := cell_of_row _ _ 3 _ _ _ Ha.out
  have fa3 := Go.Joins.unfrozen_of_block Ha.out 3
  have ca4 : w3.cell? ⟨w2.heap.size, 4, none⟩ = _ := cell_of_row _ _ 4 _ _ _ Ha.out
  have fa4 := Go.Joins.unfrozen_of_block Ha.out 4
  have cz0 : w3.cell? ⟨w.heap.size, 0, none⟩ = _ := cell_of_row _ _ 0 _ _ _ Hz.out
  have fz0 := Go.Joins.unfrozen_of_block Hz.out 0
  have cz1 : w3.cell? ⟨w.heap.size, 1, none⟩ = _ := cell_of_row _ _ 1 _ _ _ Hz.out
  have fz1 := Go.Joins.unfrozen_of_block Hz.out 1
  have cz2 : w3.cell? ⟨w.heap.size, 2, none⟩ = _ := cell_of_row _ _ 2 _ _ _ Hz.out
  have fz2 := Go.Joins.unfrozen_of_block Hz.out 2
  have cz3 : w3.cell? ⟨w.heap.size, 3, none⟩ = _ := cell_of_row _ _ 3 _ _ _ Hz.out
  have fz3 := Go.Joins.unfrozen_of_block Hz.out 3
  have cz4 : w3.cell? ⟨w.heap.size, 4, none⟩ = _ := cell_of_row _ _ 4 _ _ _ Hz.out
  have fz4 := Go.Joins.unfrozen_of_block Hz.out 4
  go_wp2_with fail
  refine (specAffixOk_any ⟨f, fr, st, ad, wh⟩ _ HSM.out.fits).mono ?_
  rintro e w4 ⟨rfl, hb4⟩
  clear Ha Hz ca0 fa0 ca1 fa1 ca2 fa2 ca3 fa3 ca4 fa4 cz0 fz0 cz1 fz1 cz2 fz2 cz3 fz3 cz4 fz4
  have HR4 : Hid (RdAt w4 (w.heap.size + 1) (q2 + 1)) := HR3.out.keep hb4
  have HK4 : Hid (Kept (w.heap.size + 1) (w2.alloc (Obj.cells #[.string f, .bool fr, .string st, .string ad, .string wh] 38 (0, 0))) w4) := HK3.out.trans (Kept.of_below hb4)
  clear hb4
  cases hA : affOk ⟨f, fr, st, ad, wh⟩ with
  | false =>
    have HS4 : Hid (At5 w2.heap.size f fr st ad wh w4) := at5_of ((HK4.out.block w2.heap.size (by simp only [World.size_alloc]; omega) (by omega)).trans (heap_alloc_last _ _))
    obtain ⟨g0, g1, g2, g3, g4⟩ := HS4.out
    have hne : ¬ w2.heap.size = w.heap.size := by omega
    have hne2 : ¬ w.heap.size = w2.heap.size := by omega
    go_wp2_with fail
    go_region_held3 (fun w' => w'.cell? ⟨w2.heap.size, 0, none⟩ = some (.string f) ∧ w'.cell? ⟨w2.heap.size, 1, none⟩ = some (.bool fr) ∧ w'.cell? ⟨w2.heap.size, 2, none⟩ = some (.string st) ∧ w'.cell? ⟨w2.heap.size, 3, none⟩ = some (.string ad) ∧ w'.cell? ⟨w2.heap.size, 4, none⟩ = some (.string wh)) (first | (with_reducible exact ⟨h0, h1, h2, h3, h4⟩) | go_keep)
      (first | (go_at_call 54; refine (l13AnyWord_any w4.drew _ (q2 + 1) (HR4.out.keep ⟨rfl, rfl, rfl, Nat.le_refl _, fun _ _ => rfl⟩) (by omega)).mono ?_; rintro e w5 ⟨t, rfl, ht, ⟨q9, hr9, hq9⟩, hk9⟩; unfold Drawn at ht; have HK5 : Hid (Kept (w.heap.size + 1) (w2.alloc (Obj.cells #[.string f, .bool fr, .string st, .string ad, .string wh] 38 (0, 0))) w5) := (HK4.out.trans (Kept.trans (b := w4.drew) ⟨rfl, rfl, rfl, Nat.le_refl _, fun _ _ _ => rfl⟩ hk9)); clear hr9 hk9; have HS5 : Hid (At5 w2.heap.size f fr st ad wh w5) := (at5_of ((HK5.out.block w2.heap.size (by simp only [World.size_alloc]; omega) (by omega)).trans (heap_alloc_last _ _))); obtain ⟨h0, h1, h2, h3, h4⟩ := HS5.out; clear g0 g1 g2 g3 g4; have Hz : Hid (w5.heap[w.heap.size]? = some (Obj.cells #[.string ⟨#[]⟩, .bool false, .string ⟨#[]⟩, .string ⟨#[]⟩, .string ⟨#[]⟩] 38 (0, 0))) := ((HK5.out.block w.heap.size (by simp only [World.size_alloc]; omega) (by omega)).trans HZ2.out); have cz0 : w5.cell? ⟨w.heap.size, 0, none⟩ = _ := (cell_of_row _ _ 0 _ _ _ Hz.out); have fz0 := Go.Joins.unfrozen_of_block Hz.out 0; have cz1 : w5.cell? ⟨w.heap.size, 1, none⟩ = _ := (cell_of_row _ _ 1 _ _ _ Hz.out); have fz1 := Go.Joins.unfrozen_of_block Hz.out 1; have cz2 : w5.cell? ⟨w.heap.size, 2, none⟩ = _ := (cell_of_row _ _ 2 _ _ _ Hz.out); have fz2 := Go.Joins.unfrozen_of_block Hz.out 2; have cz3 : w5.cell? ⟨w.heap.size, 3, none⟩ = _ := (cell_of_row _ _ 3 _ _ _ Hz.out); have fz3 := Go.Joins.unfrozen_of_block Hz.out 3; have cz4 : w5.cell? ⟨w.heap.size, 4, none⟩ = _ := (cell_of_row _ _ 4 _ _ _ Hz.out); have fz4 := Go.Joins.unfrozen_of_block Hz.out 4))
    go_wp2_with fail
    refine bodyPost_ret (v := .tuple #[.agg #[.string f, .bool fr, .string st, .string ad, .string wh], .string t]) (by simp [results, Try.results38, go_sem, cz0, cz1, cz2, cz3, cz4]) rfl ⟨⟨f, fr, st, ad, wh⟩, t, rfl, HSM.out, ht, ?_⟩
    have hb := HK5.out.below HB2.out (by omega)
    exact ((((hb.setCell (Nat.le_refl _) _).setCell (Nat.le_refl _) _).setCell (Nat.le_refl _) _).setCell (Nat.le_refl _) _).setCell (Nat.le_refl _) _
  | true =>
    have HA : Hid (affOk ⟨f, fr, st, ad, wh⟩ = true) := hA
    clear hA
    go_wp2_with fail
    refine (pick_any _ _ (q2 + 1) 3 HR4.out (by omega) (by omega)).mono ?_
    rintro e w5 ⟨v, rfl, hv0, hv1, hr5, hk5⟩
    have HR5 : Hid (RdAt w5 (w.heap.size + 1) (q2 + 1 + 1)) := hr5
    have HK5 : Hid (Kept (w.heap.size + 1) (w2.alloc (Obj.cells #[.string f, .bool fr, .string st, .string ad, .string wh] 38 (0, 0))) w5) := HK4.out.trans hk5
    clear hr5 hk5 hv0 hv1
    by_cases hv : (0 : Int) < v
    · 
      have Ha : Hid (w5.heap[w2.heap.size]? = some (Obj.cells #[.string f, .bool fr, .string st, .string ad, .string wh] 38 (0, 0))) := (HK5.out.block w2.heap.size (by simp only [World.size_alloc]; omega) (by omega)).trans (heap_alloc_last _ _)
      have Hz : Hid (w5.heap[w.heap.size]? = some (Obj.cells #[.string ⟨#[]⟩, .bool false, .string ⟨#[]⟩, .string ⟨#[]⟩, .string ⟨#[]⟩] 38 (0, 0))) := (HK5.out.block w.heap.size (by simp only [World.size_alloc]; omega) (by omega)).trans HZ2.out
      have ca0 : w5.cell? ⟨w2.heap.size, 0, none⟩ = _ := cell_of_row _ _ 0 _ _ _ Ha.out
      have fa0 := Go.Joins.unfrozen_of_block Ha.out 0
      have ca1 : w5.cell? ⟨w2.heap.size, 1, none⟩ = _ := cell_of_row _ _ 1 _ _ _ Ha.out
      have fa1 := Go.Joins.unfrozen_of_block Ha.out 1
      have ca2 : w5.cell? ⟨w2.heap.size, 2, none⟩ = _ := cell_of_row _ _ 2 _ _ _ Ha.out
      have fa2 := Go.Joins.unfrozen_of_block Ha.out 2
      have ca3 : w5.cell? ⟨w2.heap.size, 3, none⟩ = _ := cell_of_row _ _ 3 _ _ _ Ha.out
      have fa3 := Go.Joins.unfrozen_of_block Ha.out 3
      have ca4 : w5.cell? ⟨w2.heap.size, 4, none⟩ = _ := cell_of_row _ _ 4 _ _ _ Ha.out
      have fa4 := Go.Joins.unfrozen_of_block Ha.out 4
      have cz0 : w5.cell? ⟨w.heap.size, 0, none⟩ = _ := cell_of_row _ _ 0 _ _ _ Hz.out
      have fz0 := Go.Joins.unfrozen_of_block Hz.out 0
      have cz1 : w5.cell? ⟨w.heap.size, 1, none⟩ = _ := cell_of_row _ _ 1 _ _ _ Hz.out
      have fz1 := Go.Joins.unfrozen_of_block Hz.out 1
      have cz2 : w5.cell? ⟨w.heap.size, 2, none⟩ = _ := cell_of_row _ _ 2 _ _ _ Hz.out
      have fz2 := Go.Joins.unfrozen_of_block Hz.out 2
      have cz3 : w5.cell? ⟨w.heap.size, 3, none⟩ = _ := cell_of_row _ _ 3 _ _ _ Hz.out
      have fz3 := Go.Joins.unfrozen_of_block Hz.out 3
      have cz4 : w5.cell? ⟨w.heap.size, 4, none⟩ = _ := cell_of_row _ _ 4 _ _ _ Hz.out
      have fz4 := Go.Joins.unfrozen_of_block Hz.out 4
      go_wp2_with fail
      refine (l2Do_any ⟨f, fr, st, ad, wh⟩ s _ HSM.out.fits HA.out HW.out).mono ?_
      rintro e w6 ⟨rfl, hb6⟩
      clear Ha Hz ca0 fa0 ca1 fa1 ca2 fa2 ca3 fa3 ca4 fa4 cz0 fz0 cz1 fz1 cz2 fz2 cz3 fz3 cz4 fz4
      have HR6 : Hid (RdAt w6 (w.heap.size + 1) (q2 + 1 + 1)) := HR5.out.keep hb6
      have HK6 : Hid (Kept (w.heap.size + 1) (w2.alloc (Obj.cells #[.string f, .bool fr, .string st, .string ad, .string wh] 38 (0, 0))) w6) := HK5.out.trans (Kept.of_below hb6)
      clear hb6
      dsimp only
      cases hH : hasT fr s wh with
      | false =>
        simp only [Bool.false_eq_true, if_false]
        have HS6 : Hid (At5 w2.heap.size f fr st ad wh w6) := at5_of ((HK6.out.block w2.heap.size (by simp only [World.size_alloc]; omega) (by omega)).trans (heap_alloc_last _ _))
        obtain ⟨g0, g1, g2, g3, g4⟩ := HS6.out
        have hne : ¬ w2.heap.size = w.heap.size := by omega
        have hne2 : ¬ w.heap.size = w2.heap.size := by omega
        go_wp2_with fail
        go_region_held3 (fun w' => w'.cell? ⟨w2.heap.size, 0, none⟩ = some (.string f) ∧ w'.cell? ⟨w2.heap.size, 1, none⟩ = some (.bool fr) ∧ w'.cell? ⟨w2.heap.size, 2, none⟩ = some (.string st) ∧ w'.cell? ⟨w2.heap.size, 3, none⟩ = some (.string ad) ∧ w'.cell? ⟨w2.heap.size, 4, none⟩ = some (.string wh)) (first | (with_reducible exact ⟨h0, h1, h2, h3, h4⟩) | go_keep)
          (first | (go_at_call 54; refine (l13AnyWord_any w6.drew _ (q2 + 1 + 1) (HR6.out.keep ⟨rfl, rfl, rfl, Nat.le_refl _, fun _ _ => rfl⟩) (by omega)).mono ?_; rintro e w7 ⟨t, rfl, ht, ⟨q9, hr9, hq9⟩, hk9⟩; unfold Drawn at ht; have HK7 : Hid (Kept (w.heap.size + 1) (w2.alloc (Obj.cells #[.string f, .bool fr, .string st, .string ad, .string wh] 38 (0, 0))) w7) := (HK6.out.trans (Kept.trans (b := w6.drew) ⟨rfl, rfl, rfl, Nat.le_refl _, fun _ _ _ => rfl⟩ hk9)); clear hr9 hk9; have HS7 : Hid (At5 w2.heap.size f fr st ad wh w7) := (at5_of ((HK7.out.block w2.heap.size (by simp only [World.size_alloc]; omega) (by omega)).trans (heap_alloc_last _ _))); obtain ⟨h0, h1, h2, h3, h4⟩ := HS7.out; clear g0 g1 g2 g3 g4; have Hz : Hid (w7.heap[w.heap.size]? = some (Obj.cells #[.string ⟨#[]⟩, .bool false, .string ⟨#[]⟩, .string ⟨#[]⟩, .string ⟨#[]⟩] 38 (0, 0))) := ((HK7.out.block w.heap.size (by simp only [World.size_alloc]; omega) (by omega)).trans HZ2.out); have cz0 : w7.cell? ⟨w.heap.size, 0, none⟩ = _ := (cell_of_row _ _ 0 _ _ _ Hz.out); have fz0 := Go.Joins.unfrozen_of_block Hz.out 0; have cz1 : w7.cell? ⟨w.heap.size, 1, none⟩ = _ := (cell_of_row _ _ 1 _ _ _ Hz.out); have fz1 := Go.Joins.unfrozen_of_block Hz.out 1; have cz2 : w7.cell? ⟨w.heap.size, 2, none⟩ = _ := (cell_of_row _ _ 2 _ _ _ Hz.out); have fz2 := Go.Joins.unfrozen_of_block Hz.out 2; have cz3 : w7.cell? ⟨w.heap.size, 3, none⟩ = _ := (cell_of_row _ _ 3 _ _ _ Hz.out); have fz3 := Go.Joins.unfrozen_of_block Hz.out 3; have cz4 : w7.cell? ⟨w.heap.size, 4, none⟩ = _ := (cell_of_row _ _ 4 _ _ _ Hz.out); have fz4 := Go.Joins.unfrozen_of_block Hz.out 4))
        go_wp2_with fail
        refine bodyPost_ret (v := .tuple #[.agg #[.string f, .bool fr, .string st, .string ad, .string wh], .string t]) (by simp [results, Try.results38, go_sem, cz0, cz1, cz2, cz3, cz4]) rfl ⟨⟨f, fr, st, ad, wh⟩, t, rfl, HSM.out, ht, ?_⟩
        have hb := HK7.out.below HB2.out (by omega)
        exact ((((hb.setCell (Nat.le_refl _) _).setCell (Nat.le_refl _) _).setCell (Nat.le_refl _) _).setCell (Nat.le_refl _) _).setCell (Nat.le_refl _) _
      | true =>
        simp only [if_true]
        cases hM : wok (swT fr s st ad) with
        | false =>
          have HS6 : Hid (At5 w2.heap.size f fr st ad wh w6) := at5_of ((HK6.out.block w2.heap.size (by simp only [World.size_alloc]; omega) (by omega)).trans (heap_alloc_last _ _))
          obtain ⟨g0, g1, g2, g3, g4⟩ := HS6.out
          have hne : ¬ w2.heap.size = w.heap.size := by omega
          have hne2 : ¬ w.heap.size = w2.heap.size := by omega
          go_wp2_with fail
          go_region_held3 (fun w' => w'.cell? ⟨w2.heap.size, 0, none⟩ = some (.string f) ∧ w'.cell? ⟨w2.heap.size, 1, none⟩ = some (.bool fr) ∧ w'.cell? ⟨w2.heap.size, 2, none⟩ = some (.string st) ∧ w'.cell? ⟨w2.heap.size, 3, none⟩ = some (.string ad) ∧ w'.cell? ⟨w2.heap.size, 4, none⟩ = some (.string wh)) (first | (with_reducible exact ⟨h0, h1, h2, h3, h4⟩) | go_keep)
            (first | (go_at_call 54; refine (l13AnyWord_any w6.drew _ (q2 + 1 + 1) (HR6.out.keep ⟨rfl, rfl, rfl, Nat.le_refl _, fun _ _ => rfl⟩) (by omega)).mono ?_; rintro e w7 ⟨t, rfl, ht, ⟨q9, hr9, hq9⟩, hk9⟩; unfold Drawn at ht; have HK7 : Hid (Kept (w.heap.size + 1) (w2.alloc (Obj.cells #[.string f, .bool fr, .string st, .string ad, .string wh] 38 (0, 0))) w7) := (HK6.out.trans (Kept.trans (b := w6.drew) ⟨rfl, rfl, rfl, Nat.le_refl _, fun _ _ _ => rfl⟩ hk9)); clear hr9 hk9; have HS7 : Hid (At5 w2.heap.size f fr st ad wh w7) := (at5_of ((HK7.out.block w2.heap.size (by simp only [World.size_alloc]; omega) (by omega)).trans (heap_alloc_last _ _))); obtain ⟨h0, h1, h2, h3, h4⟩ := HS7.out; clear g0 g1 g2 g3 g4; have Hz : Hid (w7.heap[w.heap.size]? = some (Obj.cells #[.string ⟨#[]⟩, .bool false, .string ⟨#[]⟩, .string ⟨#[]⟩, .string ⟨#[]⟩] 38 (0, 0))) := ((HK7.out.block w.heap.size (by simp only [World.size_alloc]; omega) (by omega)).trans HZ2.out); have cz0 : w7.cell? ⟨w.heap.size, 0, none⟩ = _ := (cell_of_row _ _ 0 _ _ _ Hz.out); have fz0 := Go.Joins.unfrozen_of_block Hz.out 0; have cz1 : w7.cell? ⟨w.heap.size, 1, none⟩ = _ := (cell_of_row _ _ 1 _ _ _ Hz.out); have fz1 := Go.Joins.unfrozen_of_block Hz.out 1; have cz2 : w7.cell? ⟨w.heap.size, 2, none⟩ = _ := (cell_of_row _ _ 2 _ _ _ Hz.out); have fz2 := Go.Joins.unfrozen_of_block Hz.out 2; have cz3 : w7.cell? ⟨w.heap.size, 3, none⟩ = _ := (cell_of_row _ _ 3 _ _ _ Hz.out); have fz3 := Go.Joins.unfrozen_of_block Hz.out 3; have cz4 : w7.cell? ⟨w.heap.size, 4, none⟩ = _ := (cell_of_row _ _ 4 _ _ _ Hz.out); have fz4 := Go.Joins.unfrozen_of_block Hz.out 4))
          go_wp2_with fail
          refine bodyPost_ret (v := .tuple #[.agg #[.string f, .bool fr, .string st, .string ad, .string wh], .string t]) (by simp [results, Try.results38, go_sem, cz0, cz1, cz2, cz3, cz4]) rfl ⟨⟨f, fr, st, ad, wh⟩, t, rfl, HSM.out, ht, ?_⟩
          have hb := HK7.out.below HB2.out (by omega)
          exact ((((hb.setCell (Nat.le_refl _) _).setCell (Nat.le_refl _) _).setCell (Nat.le_refl _) _).setCell (Nat.le_refl _) _).setCell (Nat.le_refl _) _
        | true =>
          have hl : (swT fr s st ad).size ≤ 20 := by have := (wok_sz hM).2; omega
          have Ha : Hid (w6.heap[w2.heap.size]? = some (Obj.cells #[.string f, .bool fr, .string st, .string ad, .string wh] 38 (0, 0))) := (HK6.out.block w2.heap.size (by simp only [World.size_alloc]; omega) (by omega)).trans (heap_alloc_last _ _)
          have Hz : Hid (w6.heap[w.heap.size]? = some (Obj.cells #[.string ⟨#[]⟩, .bool false, .string ⟨#[]⟩, .string ⟨#[]⟩, .string ⟨#[]⟩] 38 (0, 0))) := (HK6.out.block w.heap.size (by simp only [World.size_alloc]; omega) (by omega)).trans HZ2.out
          have ca0 : w6.cell? ⟨w2.heap.size, 0, none⟩ = _ := cell_of_row _ _ 0 _ _ _ Ha.out
          have fa0 := Go.Joins.unfrozen_of_block Ha.out 0
          have ca1 : w6.cell? ⟨w2.heap.size, 1, none⟩ = _ := cell_of_row _ _ 1 _ _ _ Ha.out
          have fa1 := Go.Joins.unfrozen_of_block Ha.out 1
          have ca2 : w6.cell? ⟨w2.heap.size, 2, none⟩ = _ := cell_of_row _ _ 2 _ _ _ Ha.out
          have fa2 := Go.Joins.unfrozen_of_block Ha.out 2
          have ca3 : w6.cell? ⟨w2.heap.size, 3, none⟩ = _ := cell_of_row _ _ 3 _ _ _ Ha.out
          have fa3 := Go.Joins.unfrozen_of_block Ha.out 3
          have ca4 : w6.cell? ⟨w2.heap.size, 4, none⟩ = _ := cell_of_row _ _ 4 _ _ _ Ha.out
          have fa4 := Go.Joins.unfrozen_of_block Ha.out 4
          have cz0 : w6.cell? ⟨w.heap.size, 0, none⟩ = _ := cell_of_row _ _ 0 _ _ _ Hz.out
          have fz0 := Go.Joins.unfrozen_of_block Hz.out 0
          have cz1 : w6.cell? ⟨w.heap.size, 1, none⟩ = _ := cell_of_row _ _ 1 _ _ _ Hz.out
          have fz1 := Go.Joins.unfrozen_of_block Hz.out 1
          have cz2 : w6.cell? ⟨w.heap.size, 2, none⟩ = _ := cell_of_row _ _ 2 _ _ _ Hz.out
          have fz2 := Go.Joins.unfrozen_of_block Hz.out 2
          have cz3 : w6.cell? ⟨w.heap.size, 3, none⟩ = _ := cell_of_row _ _ 3 _ _ _ Hz.out
          have fz3 := Go.Joins.unfrozen_of_block Hz.out 3
          have cz4 : w6.cell? ⟨w.heap.size, 4, none⟩ = _ := cell_of_row _ _ 4 _ _ _ Hz.out
          have fz4 := Go.Joins.unfrozen_of_block Hz.out 4
          go_wp2_with fail
          refine bodyPost_ret (v := .tuple #[.agg #[.string f, .bool fr, .string st, .string ad, .string wh], .string (swT fr s st ad)]) (by simp [results, Try.results38, go_sem, cz0, cz1, cz2, cz3, cz4]) rfl ⟨⟨f, fr, st, ad, wh⟩, (swT fr s st ad), rfl, HSM.out, hl, ?_⟩
          have hb := HK6.out.below HB2.out (by omega)
          exact ((((hb.setCell (Nat.le_refl _) _).setCell (Nat.le_refl _) _).setCell (Nat.le_refl _) _).setCell (Nat.le_refl _) _).setCell (Nat.le_refl _) _
    · 
      have HS5 : Hid (At5 w2.heap.size f fr st ad wh w5) := at5_of ((HK5.out.block w2.heap.size (by simp only [World.size_alloc]; omega) (by omega)).trans (heap_alloc_last _ _))
      obtain ⟨g0, g1, g2, g3, g4⟩ := HS5.out
      have hne : ¬ w2.heap.size = w.heap.size := by omega
      have hne2 : ¬ w.heap.size = w2.heap.size := by omega
      go_wp2_with fail
      go_region_held3 (fun w' => w'.cell? ⟨w2.heap.size, 0, none⟩ = some (.string f) ∧ w'.cell? ⟨w2.heap.size, 1, none⟩ = some (.bool fr) ∧ w'.cell? ⟨w2.heap.size, 2, none⟩ = some (.string st) ∧ w'.cell? ⟨w2.heap.size, 3, none⟩ = some (.string ad) ∧ w'.cell? ⟨w2.heap.size, 4, none⟩ = some (.string wh)) (first | (with_reducible exact ⟨h0, h1, h2, h3, h4⟩) | go_keep)
        (first | (go_at_call 54; refine (l13AnyWord_any w5.drew _ (q2 + 1 + 1) (HR5.out.keep ⟨rfl, rfl, rfl, Nat.le_refl _, fun _ _ => rfl⟩) (by omega)).mono ?_; rintro e w7 ⟨t, rfl, ht, ⟨q9, hr9, hq9⟩, hk9⟩; unfold Drawn at ht; have HK7 : Hid (Kept (w.heap.size + 1) (w2.alloc (Obj.cells #[.string f, .bool fr, .string st, .string ad, .string wh] 38 (0, 0))) w7) := (HK5.out.trans (Kept.trans (b := w5.drew) ⟨rfl, rfl, rfl, Nat.le_refl _, fun _ _ _ => rfl⟩ hk9)); clear hr9 hk9; have HS7 : Hid (At5 w2.heap.size f fr st ad wh w7) := (at5_of ((HK7.out.block w2.heap.size (by simp only [World.size_alloc]; omega) (by omega)).trans (heap_alloc_last _ _))); obtain ⟨h0, h1, h2, h3, h4⟩ := HS7.out; clear g0 g1 g2 g3 g4; have Hz : Hid (w7.heap[w.heap.size]? = some (Obj.cells #[.string ⟨#[]⟩, .bool false, .string ⟨#[]⟩, .string ⟨#[]⟩, .string ⟨#[]⟩] 38 (0, 0))) := ((HK7.out.block w.heap.size (by simp only [World.size_alloc]; omega) (by omega)).trans HZ2.out); have cz0 : w7.cell? ⟨w.heap.size, 0, none⟩ = _ := (cell_of_row _ _ 0 _ _ _ Hz.out); have fz0 := Go.Joins.unfrozen_of_block Hz.out 0; have cz1 : w7.cell? ⟨w.heap.size, 1, none⟩ = _ := (cell_of_row _ _ 1 _ _ _ Hz.out); have fz1 := Go.Joins.unfrozen_of_block Hz.out 1; have cz2 : w7.cell? ⟨w.heap.size, 2, none⟩ = _ := (cell_of_row _ _ 2 _ _ _ Hz.out); have fz2 := Go.Joins.unfrozen_of_block Hz.out 2; have cz3 : w7.cell? ⟨w.heap.size, 3, none⟩ = _ := (cell_of_row _ _ 3 _ _ _ Hz.out); have fz3 := Go.Joins.unfrozen_of_block Hz.out 3; have cz4 : w7.cell? ⟨w.heap.size, 4, none⟩ = _ := (cell_of_row _ _ 4 _ _ _ Hz.out); have fz4 := Go.Joins.unfrozen_of_block Hz.out 4))
      go_wp2_with fail
      refine bodyPost_ret (v := .tuple #[.agg #[.string f, .bool fr, .string st, .string ad, .string wh], .string t]) (by simp [results, Try.results38, go_sem, cz0, cz1, cz2, cz3, cz4]) rfl ⟨⟨f, fr, st, ad, wh⟩, t, rfl, HSM.out, ht, ?_⟩
      have hb := HK7.out.below HB2.out (by omega)
      exact ((((hb.setCell (Nat.le_refl _) _).setCell (Nat.le_refl _) _).setCell (Nat.le_refl _) _).setCell (Nat.le_refl _) _).setCell (Nat.le_refl _) _
set_option maxRecDepth 100000 in
set_option maxHeartbeats 2000000 in
theorem fnAffixBack_walk (a : Option Addr) (len cap : Nat) (zs : List Int) (w : World) (h : IsRow .u8 w a len cap zs) :
    Calls Try.prog 9 #[.slice a len cap] w fun e w' => e = .returned (.bool true) ∧ Below w.heap.size w w' := by
  by_cases h1 : (1048576 : Int) < (len : Int)
  · clear h
    go_enter Try.func9, Try.ntmps9
    go_wp2
    go_ret
    exact ⟨rfl, Below.refl _ _⟩
  have HI : Hid (IsRow .u8 w a len cap zs) := h
  clear h
  go_enter Try.func9, Try.ntmps9
  go_wp2_with fail
  refine (drawAffixBack_any w a len cap zs HI.out).mono ?_
  rintro e w1 ⟨⟨f, fr, st, ad, wh⟩, s, rfl, hsm, hs, hb1⟩
  have HF : Hid (Aff.fits ⟨f, fr, st, ad, wh⟩) := hsm.fits
  have HMS : Hid (s.size ≤ maxLen) := show s.size ≤ maxLen by unfold maxLen; omega
  clear hsm
  unfold Aff.cells
  go_wp2_with fail
  refine (implAffixBack_any ⟨f, fr, st, ad, wh⟩ s _ HF.out HMS.out).mono ?_
  rintro e w2 ⟨rfl, hb2⟩
  have hb2' : Below w.heap.size w w2 := (hb1.alloc hb1.size _).trans (hb2.mono (by have := hb1.size; simp only [World.size_alloc]; omega))
  have hc2 := bcell hb2
  have hz2 : w1.heap.size < w2.heap.size := by have := hb2.size; simp only [World.size_alloc] at this; omega
  clear hb2 hb1
  obtain ⟨m, ok, hr⟩ : ∃ m ok, backT ⟨f, fr, st, ad, wh⟩ s = (m, ok) := ⟨_, _, rfl⟩
  have HR : Hid (backT ⟨f, fr, st, ad, wh⟩ s = (m, ok)) := hr
  rw [hr]
  clear hr
  dsimp only
  go_wp2_with fail
  refine (specAffixBack_any ⟨f, fr, st, ad, wh⟩ s _ HF.out HMS.out).mono ?_
  rintro e w3 ⟨rfl, hb3⟩
  have hb3' : Below w.heap.size w w3 := hb2'.trans (hb3.mono hb2'.size)
  have hc3 := bcell hb3
  have hz3 : w1.heap.size < w3.heap.size := by have := hb3.size; omega
  clear hb3
  rw [HR.out]
  dsimp only
  cases ok with
  | false =>
    go_wp2_with fail
    go_ret
    exact ⟨rfl, hb3'⟩
  | true =>
    have HD : Hid (doT ⟨f, fr, st, ad, wh⟩ m = (s, true) ∧ m.size ≤ 12) := by
      have := back_do (a := ⟨f, fr, st, ad, wh⟩) (s := s) (by rw [HR.out])
      rw [HR.out] at this
      exact this
    go_wp2_with fail
    refine (implAffixDo_any ⟨f, fr, st, ad, wh⟩ m _ HF.out (by have := HD.out.2; unfold maxLen; omega)).mono ?_
    rintro e w4 ⟨rfl, hb4⟩
    have hb4' : Below w.heap.size w w4 := hb3'.trans (hb4.mono hb3'.size)
    clear hb4
    rw [HD.out.1]
    dsimp only
    go_wp2_with fail
    go_ret
    exact ⟨rfl, hb4'⟩
end Go.Proofs.Ytaldbaapfdpbgaa
