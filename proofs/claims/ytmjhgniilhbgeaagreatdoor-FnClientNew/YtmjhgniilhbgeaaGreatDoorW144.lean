/-
  Entries and affixes held against their marks; changes in one form.
-/
import Derived.Test.YtmjhgniilhbgeaaGreatDoorW142
import Derived.Test.YtmjhgniilhbgeaaGreatDoorW111
import Derived.Deep.RegionHeld3
namespace Go.Proofs.YtmjhgniilhbgeaaGreatDoor
open Go.RowKit
set_option linter.unusedVariables false
/-- Changes: what goes, what comes, whether affixes change, which. -/
abbrev DeltaM := List ByteArray × List (ByteArray × ByteArray) × Bool × List Aff
def DeltaAt (w : World) (v : Value) (x : DeltaM) : Prop := ∃ vg vc vl, v = .agg #[vg, vc, .bool x.2.2.1, vl] ∧ TextsAt w vg x.1 ∧ EntsAt w vc x.2.1 ∧ AffsAt w vl x.2.2.2
def DeltaOwn (lo hi : Nat) (w : World) (v : Value) (x : DeltaM) : Prop := ∃ vg vc vl, v = .agg #[vg, vc, .bool x.2.2.1, vl] ∧ TextsRow lo hi w vg x.1 ∧ EntsOwn lo hi w vc x.2.1 ∧ AffsOwn lo hi w vl x.2.2.2
def DeltaSm (x : DeltaM) : Prop := x.1.length ≤ 1048576 ∧ x.2.1.length ≤ 1048576 ∧ x.2.2.2.length ≤ 1048576
def deltaCnt (x : DeltaM) : Nat := x.1.length + x.2.1.length * 2 + x.2.2.2.length * 5
def deltaMk (k : Nat) (x : DeltaM) : DeltaM := (marks k x.1.length, marksE (k + x.1.length) x.2.1.length, x.2.2.1, marksA (k + x.1.length + x.2.1.length * 2) x.2.2.2.length)
theorem DeltaAt.form {w : World} {v : Value} {x : DeltaM} (h : DeltaAt w v x) : ∃ a b c d, v = .agg #[a, b, c, d] := by obtain ⟨vg, vc, vl, hv, _⟩ := h; exact ⟨_, _, _, _, hv⟩
theorem DeltaAt.form2 {w : World} {v : Value} {x : DeltaM} (h : DeltaAt w v x) : ∃ a n c a' n' c' b a'' n'' c'', v = .agg #[.slice a n c, .slice a' n' c', .bool b, .slice a'' n'' c''] := by
  obtain ⟨vg, vc, vl, rfl, h1, h2, h3⟩ := h
  obtain ⟨a, c, rfl, _⟩ := h1.form
  obtain ⟨a', c', rfl, _⟩ := h2.form
  obtain ⟨a'', c'', rfl, _⟩ := h3.form
  exact ⟨_, _, _, _, _, _, _, _, _, _, rfl⟩
theorem DeltaAt.below {w w' : World} {v : Value} {x : DeltaM} (h : DeltaAt w v x) (hb : Below w.heap.size w w') : DeltaAt w' v x := by
  obtain ⟨vg, vc, vl, hv, h1, h2, h3⟩ := h
  exact ⟨vg, vc, vl, hv, h1.below hb, h2.below hb, h3.below hb⟩
theorem DeltaOwn.at {lo hi : Nat} {w : World} {v : Value} {x : DeltaM} (h : DeltaOwn lo hi w v x) : DeltaAt w v x := by
  obtain ⟨vg, vc, vl, hv, h1, h2, h3⟩ := h
  exact ⟨vg, vc, vl, hv, h1.at, h2.at, h3.at⟩
theorem DeltaOwn.below {lo hi : Nat} {w w' : World} {v : Value} {x : DeltaM} (h : DeltaOwn lo hi w v x) (hb : Below w.heap.size w w') : DeltaOwn lo hi w' v x := by
  obtain ⟨vg, vc, vl, hv, h1, h2, h3⟩ := h
  exact ⟨vg, vc, vl, hv, h1.below hb, h2.below hb, h3.below hb⟩
theorem DeltaOwn.wr {lo hi l h' : Nat} {w w' : World} {v : Value} {x : DeltaM} (h : DeltaOwn lo hi w v x) (hw : Wr l h' w w') (hl : h' ≤ lo) : DeltaOwn lo hi w' v x := by
  obtain ⟨vg, vc, vl, hv, h1, h2, h3⟩ := h
  exact ⟨vg, vc, vl, hv, h1.wr hw hl, h2.wr hw hl, h3.wr hw hl⟩
theorem box_cell {w w1 : World} {lo hi : Nat} {cs : Array Value} {t : TypeId} (hw : Wr lo hi (w.alloc (.cells cs t)) w1) (hlo : hi ≤ w.heap.size) (i : Nat) : w1.cell? ⟨w.heap.size, i, none⟩ = cs[i]? := by
  have hblk : w1.heap[w.heap.size]? = (w.alloc (.cells cs t)).heap[w.heap.size]? := hw.2.2.1 _ hlo (by simp)
  rw [cell_of_row _ _ i _ _ _ (hblk.trans (heap_alloc_last _ _))]
end Go.Proofs.YtmjhgniilhbgeaaGreatDoor
