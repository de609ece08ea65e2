/-
  A change that a law is given: opened, its size, a copy of it, held against another one.
-/
import Derived.Test.YtbbepdmogkadeaaW110
import Derived.Test.YtbbepdmogkadeaaW72
import Derived.Test.YtbbepdmogkadeaaW74
namespace Go.Proofs.Ytbbepdmogkadeaa
open Go.ChangeShapes Go.WideShapes Go.ChangeAt Go.RowKit
set_option linter.unusedVariables false
theorem rowIs_new {w : World} (arr : Array Value) (t : TypeId) : (w.alloc (.cells arr t)).rowIs w.heap.size t arr.size (fun i => arr[i]?.getD .nilFunc) :=
  ⟨arr, Go.Deep.blk_alloc_new _ _, rfl, fun i hi => by simp [hi]⟩
theorem rowIs_other {w : World} {b n : Nat} {t : TypeId} {f : Nat → Value} (h : w.rowIs b t n f) {p : Addr} (hp : b ≠ p.block) (u : Value) : (w.setCell p u).rowIs b t n f :=
  h.of_block (Below.heap_setCell _ _ _ b hp)
theorem TextsAt.set {w : World} {b off n cap : Nat} {xs : List ByteArray} (h : TextsAt w (.slice (some ⟨b, off, none⟩) n cap) xs) {p : Addr} (hp : b ≠ p.block) (u : Value) : TextsAt (w.setCell p u) (.slice (some ⟨b, off, none⟩) n cap) xs := by
  obtain ⟨a, cap', hv, hc, hm, hf, hh⟩ := h
  refine ⟨a, cap', hv, hc, hm, hf, fun hn => ?_⟩
  obtain ⟨b', off', ha, h2, h3⟩ := hh hn
  cases ha
  cases hv
  refine ⟨b, off, rfl, by rw [Go.Deep.nblk_setCell]; exact h2, fun i x hx => ?_⟩
  rw [World.cell?_setCell_other _ _ _ _ (by intro e; first | exact hp (congrArg Addr.block e) | exact hp (congrArg Addr.block e).symm)]
  exact h3 i x hx
set_option maxHeartbeats 1000000 in
theorem eqDelta_same (w : World) (vg vc vl ug uc ul : Value) (af : Bool) (gs : List ByteArray) (es : List (ByteArray × ByteArray)) (xs : List Aff) (hg : TextsAt w vg gs) (he : EntsAt w vc es) (ha : AffsAt w vl xs) (hg' : TextsAt w ug gs) (he' : EntsAt w uc es) (ha' : AffsAt w ul xs) :
    Calls Try.prog 8 #[.agg #[vg, vc, .bool af, vl], .agg #[ug, uc, .bool af, ul]] w fun e w' => e = .returned (.bool true) ∧ Below w.heap.size w w' := by
  obtain ⟨a1, cap1, rfl, _, _⟩ := hg.form
  obtain ⟨a2, cap2, rfl, _, _⟩ := he.form
  obtain ⟨a3, cap3, rfl, _, _⟩ := ha.form
  obtain ⟨a4, cap4, rfl, _, _⟩ := hg'.form
  obtain ⟨a5, cap5, rfl, _, _⟩ := he'.form
  obtain ⟨a6, cap6, rfl, _, _⟩ := ha'.form
  have H1 : Hid (TextsAt w (.slice a1 gs.length cap1) gs) := hg
  have H2 : Hid (EntsAt w (.slice a2 es.length cap2) es) := he
  have H3 : Hid (AffsAt w (.slice a3 xs.length cap3) xs) := ha
  have H4 : Hid (TextsAt w (.slice a4 gs.length cap4) gs) := hg'
  have H5 : Hid (EntsAt w (.slice a5 es.length cap5) es) := he'
  have H6 : Hid (AffsAt w (.slice a6 xs.length cap6) xs) := ha'
  clear hg he ha hg' he' ha'
  go_enter Try.func8, Try.ntmps8
  go_wp2_with fail
  refine (eqStringS_same _ _ _ gs (H1.out.below ?b1) (H4.out.below ?b1)).mono ?_
  case b1 => exact ((Below.refl _ _).alloc (Nat.le_refl _) _).alloc (by simp) _
  rintro e w1 ⟨rfl, hb1⟩
  have HB1 : Hid (Below w.heap.size w w1) := Below.trans (((Below.refl _ _).alloc (Nat.le_refl _) _).alloc (by simp) _) (hb1.mono (by simp <;> omega))
  obtain ⟨hcl, hfz⟩ := bcell7 hb1
  have hz := hb1.size
  simp at hz
  clear hb1
  go_wp2_with fail
  refine (eqEntryS_same _ _ _ es (H2.out.below HB1.out) (H5.out.below HB1.out)).mono ?_
  rintro e w2 ⟨rfl, hb2⟩
  have HB2 : Hid (Below w.heap.size w w2) := HB1.out.trans (hb2.mono HB1.out.size)
  have d2 : ∀ i, w2.cell? ⟨w.heap.size, i, none⟩ = w1.cell? ⟨w.heap.size, i, none⟩ := fun i => hb2.cell (p := ⟨w.heap.size, i, none⟩) (show w.heap.size < _ by omega)
  have d3 : ∀ i, w2.cell? ⟨w.heap.size + 1, i, none⟩ = w1.cell? ⟨w.heap.size + 1, i, none⟩ := fun i => hb2.cell (p := ⟨w.heap.size + 1, i, none⟩) (show w.heap.size + 1 < _ by omega)
  clear hb2
  go_wp2_with fail
  refine (eqAffixS_same _ _ _ xs (H3.out.below HB2.out) (H6.out.below HB2.out)).mono ?_
  rintro e w3 ⟨rfl, hb3⟩
  have HB3 : Hid (Below w.heap.size w w3) := HB2.out.trans (hb3.mono HB2.out.size)
  clear hb3 hcl hfz d2 d3
  go_wp2
  go_ret
  exact ⟨rfl, HB3.out⟩
end Go.Proofs.Ytbbepdmogkadeaa
