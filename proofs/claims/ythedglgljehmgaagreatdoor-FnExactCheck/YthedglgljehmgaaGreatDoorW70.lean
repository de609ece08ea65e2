/-
  Affixes and entries in memory.
-/
import Derived.Test.YthedglgljehmgaaGreatDoorProg
import Derived.Test.YthedglgljehmgaaGreatDoorGW69
import Derived.Deep.QuietTactic
import Derived.BigQuiet
import Derived.WalkKit
import Derived.WalkSpells
import Derived.WalkLawsBesides
import Derived.Lib.SmallJoins
import Derived.Deep.WholeRow
import Derived.Deep.OwnRows
namespace Go.Proofs.YthedglgljehmgaaGreatDoor
open Go.RowKit
set_option linter.unusedVariables false
theorem below_drewN70 {B : Nat} {a w : World} (h : Below B a w) (n : Nat) : Below B a (w.drewN n) := by
  induction n with
  | zero => exact h
  | succ n ih => exact ih.drew
/-- An affix lies at a place. -/
def AffCell (w : World) (b o : Nat) (x : Aff) : Prop :=
  w.cell? ⟨b, o, none⟩ = some (.string x.flag) ∧ w.cell? ⟨b, o + 1, none⟩ = some (.bool x.front) ∧ w.cell? ⟨b, o + 2, none⟩ = some (.string x.strip) ∧ w.cell? ⟨b, o + 3, none⟩ = some (.string x.add) ∧ w.cell? ⟨b, o + 4, none⟩ = some (.string x.wh)
/-- A slice of affixes. -/
def AffsAt (w : World) (v : Value) (xs : List Aff) : Prop :=
  ∃ a cap, v = .slice a xs.length cap ∧ xs.length ≤ cap ∧ cap ≤ maxLen ∧ (∀ (i : Nat) (x : Aff), xs[i]? = some x → x.fits) ∧
    (xs ≠ [] → ∃ b off, a = some ⟨b, off, none⟩ ∧ b < w.heap.size ∧ ∀ (i : Nat) (x : Aff), xs[i]? = some x → AffCell w b (off + i * 5) x)
/-- A slice of entries. -/
def EntsAt (w : World) (v : Value) (es : List (ByteArray × ByteArray)) : Prop :=
  ∃ a cap, v = .slice a es.length cap ∧ es.length ≤ cap ∧ cap ≤ maxLen ∧ (∀ (i : Nat) (x : ByteArray × ByteArray), es[i]? = some x → x.1.size ≤ maxLen ∧ x.2.size ≤ maxLen) ∧
    (es ≠ [] → ∃ b off, a = some ⟨b, off, none⟩ ∧ b < w.heap.size ∧ ∀ (i : Nat) (x : ByteArray × ByteArray), es[i]? = some x → w.cell? ⟨b, off + i * 2, none⟩ = some (.string x.1) ∧ w.cell? ⟨b, off + i * 2 + 1, none⟩ = some (.string x.2))
theorem AffCell.below {w w' : World} {b o : Nat} {x : Aff} (h : AffCell w b o x) (hb : Below w.heap.size w w') (hlt : b < w.heap.size) : AffCell w' b o x := by
  obtain ⟨h0, h1, h2, h3, h4⟩ := h
  exact ⟨(hb.cell (p := ⟨b, o, none⟩) hlt).trans h0, (hb.cell (p := ⟨b, o + 1, none⟩) hlt).trans h1, (hb.cell (p := ⟨b, o + 2, none⟩) hlt).trans h2, (hb.cell (p := ⟨b, o + 3, none⟩) hlt).trans h3, (hb.cell (p := ⟨b, o + 4, none⟩) hlt).trans h4⟩
theorem AffsAt.below {w w' : World} {v : Value} {xs : List Aff} (h : AffsAt w v xs) (hb : Below w.heap.size w w') : AffsAt w' v xs := by
  obtain ⟨a, cap, hv, hc, hm, hf, hh⟩ := h
  refine ⟨a, cap, hv, hc, hm, hf, fun hn => ?_⟩
  obtain ⟨b, off, ha, h2, h3⟩ := hh hn
  exact ⟨b, off, ha, Nat.lt_of_lt_of_le h2 hb.size, fun i x hx => (h3 i x hx).below hb h2⟩
theorem EntsAt.below {w w' : World} {v : Value} {es : List (ByteArray × ByteArray)} (h : EntsAt w v es) (hb : Below w.heap.size w w') : EntsAt w' v es := by
  obtain ⟨a, cap, hv, hc, hm, hf, hh⟩ := h
  refine ⟨a, cap, hv, hc, hm, hf, fun hn => ?_⟩
  obtain ⟨b, off, ha, h2, h3⟩ := hh hn
  refine ⟨b, off, ha, Nat.lt_of_lt_of_le h2 hb.size, fun i x hx => ?_⟩
  obtain ⟨c1, c2⟩ := h3 i x hx
  exact ⟨(hb.cell (p := ⟨b, off + i * 2, none⟩) h2).trans c1, (hb.cell (p := ⟨b, off + i * 2 + 1, none⟩) h2).trans c2⟩
theorem AffsAt.form {w : World} {v : Value} {xs : List Aff} (h : AffsAt w v xs) : ∃ a cap, v = .slice a xs.length cap ∧ xs.length ≤ cap ∧ cap ≤ maxLen := by
  obtain ⟨a, cap, hv, hc, hm, hf, hh⟩ := h
  exact ⟨a, cap, hv, hc, hm⟩
theorem EntsAt.form {w : World} {v : Value} {es : List (ByteArray × ByteArray)} (h : EntsAt w v es) : ∃ a cap, v = .slice a es.length cap ∧ es.length ≤ cap ∧ cap ≤ maxLen := by
  obtain ⟨a, cap, hv, hc, hm, hf, hh⟩ := h
  exact ⟨a, cap, hv, hc, hm⟩
theorem not_nil70 {α : Type} {l : List α} {i : Nat} {x : α} (h : l[i]? = some x) : l ≠ [] := by rintro rfl; simp at h
theorem AffsAt.at {w : World} {v : Value} {xs : List Aff} (h : AffsAt w v xs) {k : Nat} (hk : k < xs.length) :
    ∃ b off cap x, v = .slice (some ⟨b, off, none⟩) xs.length cap ∧ b < w.heap.size ∧ xs[k]? = some x ∧ x.fits ∧ AffCell w b (off + k * 5) x := by
  obtain ⟨a, cap, hv, hc, hm, hf, hh⟩ := h
  have he := List.getElem?_eq_getElem hk
  obtain ⟨b, off, rfl, h2, h3⟩ := hh (not_nil70 he)
  exact ⟨b, off, cap, _, hv, h2, he, hf k _ he, h3 k _ he⟩
theorem EntsAt.at {w : World} {v : Value} {es : List (ByteArray × ByteArray)} (h : EntsAt w v es) {k : Nat} (hk : k < es.length) :
    ∃ b off cap x, v = .slice (some ⟨b, off, none⟩) es.length cap ∧ b < w.heap.size ∧ es[k]? = some x ∧ (x.1.size ≤ maxLen ∧ x.2.size ≤ maxLen) ∧ w.cell? ⟨b, off + k * 2, none⟩ = some (.string x.1) ∧ w.cell? ⟨b, off + k * 2 + 1, none⟩ = some (.string x.2) := by
  obtain ⟨a, cap, hv, hc, hm, hf, hh⟩ := h
  have he := List.getElem?_eq_getElem hk
  obtain ⟨b, off, rfl, h2, h3⟩ := hh (not_nil70 he)
  exact ⟨b, off, cap, _, hv, h2, he, hf k _ he, h3 k _ he⟩
/-- The first so many of them. -/
theorem AffsAt.take {w : World} {b off cap : Nat} {xs : List Aff} (h : AffsAt w (.slice (some ⟨b, off, none⟩) xs.length cap) xs) {k : Nat} (hk : k ≤ xs.length) : AffsAt w (.slice (some ⟨b, off, none⟩) k cap) (xs.take k) := by
  obtain ⟨a, cap', hv, hc, hm, hf, hh⟩ := h
  cases hv
  refine ⟨_, cap, by rw [List.length_take, Nat.min_eq_left hk], by rw [List.length_take]; omega, hm, fun i x hx => ?_, fun hn => ?_⟩
  · rw [List.getElem?_take] at hx
    split at hx
    · exact hf i x hx
    · cases hx
  · have hne : xs ≠ [] := by rintro rfl; simp at hn
    obtain ⟨b', off', ha, h2, h3⟩ := hh hne
    cases ha
    refine ⟨b, off, rfl, h2, fun i x hx => ?_⟩
    rw [List.getElem?_take] at hx
    split at hx
    · exact h3 i x hx
    · cases hx
/-- Some affix is the same as one. -/
def affIn (xs : List Aff) (x : Aff) : Bool := xs.any fun y => affEq x y
theorem affIn_take {xs : List Aff} {x y : Aff} {k : Nat} (hy : xs[k]? = some y) : affIn (xs.take (k + 1)) x = (affIn (xs.take k) x || affEq x y) := by
  unfold affIn
  rw [List.take_add_one, hy]
  simp
theorem affIn_found {xs : List Aff} {x y : Aff} {k : Nat} (hy : xs[k]? = some y) (h : affEq x y = true) : affIn xs x = true := by
  simp only [affIn, List.any_eq_true]
  exact ⟨y, List.mem_of_getElem? hy, h⟩
set_option maxHeartbeats 1000000 in
theorem sIndex_any (w : World) (v : Value) (xs : List Aff) (x : Aff) (h : AffsAt w v xs) :
    Calls Tryz.prog 89 #[v, .agg x.cells] w fun e w' => (∃ r : Int, e = .returned (.int .i64 r) ∧ decide (0 ≤ r) = affIn xs x) ∧ Below w.heap.size w w' := by
  obtain ⟨a, cap, rfl, hc, hm⟩ := h.form
  have HS : Hid (AffsAt w (.slice a xs.length cap) xs) := h
  clear h
  unfold maxLen at hm
  obtain ⟨f, fr, st, ad, wh⟩ := x
  unfold Aff.cells
  have hgd := run_affGuard
  have heq := run_affEq5
  go_enter Tryz.func89, Tryz.ntmps89
  go_wp2
  go_loopw [8] (fun i wr => ∃ (k : Nat), k ≤ xs.length ∧ i = .int .i64 k ∧ affIn (xs.take k) ⟨f, fr, st, ad, wh⟩ = false ∧ AffCell wr w.heap.size 0 ⟨f, fr, st, ad, wh⟩ ∧ w.heap.size < wr.heap.size ∧ Below w.heap.size w wr) (fun i _ => xs.length - (intOf i).toNat)
  case atStart => exact ⟨0, Nat.zero_le _, rfl, rfl, ⟨by simp [go_sem], by simp [go_sem], by simp [go_sem], by simp [go_sem], by simp [go_sem]⟩, by simp, (Below.refl _ _).alloc (Nat.le_refl _) _⟩
  case round =>
    obtain ⟨k, hk, rfl, hni, hbox, hlt0, hb⟩ := hrel
    have HB : Hid (Below w.heap.size w wr) := hb
    have HNI : Hid (affIn (xs.take k) ⟨f, fr, st, ad, wh⟩ = false) := hni
    have HBOX : Hid (AffCell wr w.heap.size 0 ⟨f, fr, st, ad, wh⟩) := hbox
    obtain ⟨s0, s1, s2, s3, s4⟩ := hbox
    simp only [Nat.zero_add] at s1 s2 s3 s4
    clear hb hni
    by_cases hlt : k < xs.length
    · obtain ⟨b, off, cap', y, hv, hbl, hy, hyf, e0, e1, e2, e3, e4⟩ := (HS.out.below HB.out).at hlt
      cases hv
      have HY : Hid (xs[k]? = some y) := hy
      obtain ⟨f', fr', st', ad', wh'⟩ := y
      simp only at e0 e1 e2 e3 e4
      clear hy hyf
      cases hq : affEq ⟨f, fr, st, ad, wh⟩ ⟨f', fr', st', ad', wh'⟩ with
      | true =>
        have HI : Hid (affIn xs ⟨f, fr, st, ad, wh⟩ = true) := affIn_found HY.out hq
        go_wp2_with fail
        go_quiet (fail)
        go_wp2
        go_ret
        refine ⟨⟨k, rfl, ?_⟩, below_drewN70 HB.out _⟩
        rw [HI.out]
        simp
      | false =>
        have HI : Hid (affIn (xs.take (k + 1)) ⟨f, fr, st, ad, wh⟩ = false) := by show affIn (xs.take (k + 1)) ⟨f, fr, st, ad, wh⟩ = false; rw [affIn_take HY.out, HNI.out, hq]; rfl
        go_wp2_with fail
        go_quiet (fail)
        go_wp2
        go_roundw
        case rel => exact ⟨k + 1, by omega, by go_num, HI.out, HBOX.out, hlt0, below_drewN70 HB.out _⟩
        case measure => simp [intOf]; omega
    · have HI : Hid (affIn xs ⟨f, fr, st, ad, wh⟩ = false) := by
        have := HNI.out
        rwa [List.take_of_length_le (by omega)] at this
      go_wp2
      go_ret
      refine ⟨⟨-1, rfl, ?_⟩, HB.out⟩
      rw [HI.out]
      rfl
set_option maxHeartbeats 1000000 in
theorem sContains_any (w : World) (v : Value) (xs : List Aff) (x : Aff) (h : AffsAt w v xs) :
    Calls Tryz.prog 71 #[v, .agg x.cells] w fun e w' => e = .returned (.bool (affIn xs x)) ∧ Below w.heap.size w w' := by
  obtain ⟨a, cap, rfl, hc, hm⟩ := h.form
  have HS : Hid (AffsAt w (.slice a xs.length cap) xs) := h
  clear h
  obtain ⟨f, fr, st, ad, wh⟩ := x
  unfold Aff.cells
  go_enter Tryz.func71, Tryz.ntmps71
  go_wp2_with fail
  refine (sIndex_any _ _ xs ⟨f, fr, st, ad, wh⟩ (HS.out.below ((Below.refl _ _).alloc (Nat.le_refl _) _))).mono ?_
  rintro e w' ⟨⟨r, rfl, hr⟩, hb'⟩
  have HR : Hid (decide (0 ≤ r) = affIn xs ⟨f, fr, st, ad, wh⟩) := hr
  have HB : Hid (Below w.heap.size w w') := Below.trans ((Below.refl _ _).alloc (Nat.le_refl _) _) (hb'.mono (by simp <;> omega))
  clear hr hb'
  go_wp2
  go_ret
  rw [← HR.out]
  exact ⟨rfl, HB.out⟩
end Go.Proofs.YthedglgljehmgaaGreatDoor
