/-
  What may be written of memory that is one's own.
-/
import Derived.Test.YthedglgljehmgaaGreatDoorProg
import Derived.WalkKit
import Derived.WalkSpells
import Derived.WalkLawsBesides
import Derived.Deep.WholeRow
import Derived.Deep.OwnRows
import Derived.Below
namespace Go.Proofs.YthedglgljehmgaaGreatDoor
open Go.RowKit
set_option linter.unusedVariables false
/-- What may be written: blocks from lo on, below hi; each row keeps its shape. -/
def Wr (lo hi : Nat) (w w' : World) : Prop :=
  Below lo w w' ∧ w.heap.size ≤ w'.heap.size ∧ (∀ b, hi ≤ b → b < w.heap.size → w'.heap[b]? = w.heap[b]?) ∧ ∀ b t n f, w.rowIs b t n f → ∃ f', w'.rowIs b t n f'
theorem Wr.refl (lo hi : Nat) (w : World) : Wr lo hi w w := ⟨Below.refl _ _, Nat.le_refl _, fun _ _ _ => rfl, fun _ _ _ f h => ⟨f, h⟩⟩
theorem Wr.trans {lo hi : Nat} {w w1 w2 : World} (h : Wr lo hi w w1) (k : Wr lo hi w1 w2) : Wr lo hi w w2 :=
  ⟨h.1.trans k.1, Nat.le_trans h.2.1 k.2.1, fun b hb hl => (k.2.2.1 b hb (Nat.lt_of_lt_of_le hl h.2.1)).trans (h.2.2.1 b hb hl), fun b t n f hf => by
    obtain ⟨f1, h1⟩ := h.2.2.2 b t n f hf
    exact k.2.2.2 b t n f1 h1⟩
theorem Wr.low {lo lo' hi : Nat} {w w1 : World} (h : Wr lo hi w w1) (hl : lo' ≤ lo) : Wr lo' hi w w1 := ⟨h.1.mono hl, h.2⟩
theorem Wr.set {lo hi : Nat} (w : World) {p : Addr} (h1 : lo ≤ p.block) (h2 : p.block < hi) (hs : p.spot = none) (u : Value) : Wr lo hi w (w.setCell p u) := by
  refine ⟨(Below.refl _ _).setCell h1 _, by rw [Go.Deep.nblk_setCell]; exact Nat.le_refl _, fun b hb _ => Below.heap_setCell _ _ _ b (by omega), fun b t n f hf => ?_⟩
  obtain ⟨pb, po, ps⟩ := p
  simp only at hs
  subst hs
  by_cases e : b = pb
  · subst e
    exact ⟨_, hf.set po u⟩
  · exact ⟨f, hf.of_block (Below.heap_setCell _ _ _ b e)⟩
theorem grown_of_below {w w' : World} (row : Option Nat) (h : Below w.heap.size w w') : w.grownBy w' row := ⟨h.os, h.tape, h.output, h.size, fun k hk _ => h.block k hk⟩
theorem grown_set (w : World) (g o : Nat) (u : Value) : w.grownBy (w.setCell ⟨g, o, none⟩ u) (some g) :=
  ⟨rfl, rfl, rfl, by rw [Go.Deep.nblk_setCell]; exact Nat.le_refl _, fun k _ hk => Below.heap_setCell _ _ _ k (fun e => hk (by rw [e]))⟩
theorem grown_trans {a b c : World} {row : Option Nat} (h : a.grownBy b row) (k : b.grownBy c row) : a.grownBy c row :=
  ⟨k.os.trans h.os, k.tape.trans h.tape, k.output.trans h.output, Nat.le_trans h.size k.size, fun i hi hne => (k.block i (Nat.lt_of_lt_of_le hi h.size) hne).trans (h.block i hi hne)⟩
theorem grown_refl (w : World) (row : Option Nat) : w.grownBy w row := ⟨rfl, rfl, rfl, Nat.le_refl _, fun _ _ _ => rfl⟩
theorem below_of_grown {w w' : World} {row : Option Nat} {lo : Nat} (h : w.grownBy w' row) (hl : ∀ k, row = some k → lo ≤ k) (hs : lo ≤ w.heap.size) : Below lo w w' := (Below.refl _ _).grown h hs hl
/-- A slice of things of a size, in a row of its own from block lo on, below hi; what its cells hold. -/
def RowOwn (t : TypeId) (size lo hi : Nat) (w : World) (v : Value) (n : Nat) (C : (Nat → Value) → Prop) : Prop :=
  ∃ a cap, v = .slice a n cap ∧ n ≤ cap ∧ cap ≤ maxLen ∧ (n ≠ 0 → ∃ g m f, a = some ⟨g, 0, none⟩ ∧ lo ≤ g ∧ g < hi ∧ n * size ≤ m ∧ w.rowIs g t m f ∧ C f)
theorem RowOwn.form {t : TypeId} {size lo hi : Nat} {w : World} {v : Value} {n : Nat} {C : (Nat → Value) → Prop} (h : RowOwn t size lo hi w v n C) : ∃ a cap, v = .slice a n cap ∧ n ≤ cap ∧ cap ≤ maxLen := by
  obtain ⟨a, cap, h1, h2, h3, _⟩ := h
  exact ⟨a, cap, h1, h2, h3⟩
theorem RowOwn.block {t : TypeId} {size lo hi : Nat} {w w' : World} {v : Value} {n : Nat} {C : (Nat → Value) → Prop} (h : RowOwn t size lo hi w v n C) (hb : ∀ g, lo ≤ g → g < hi → v.ownBlock = some g → n ≠ 0 → g < w.heap.size → w'.heap[g]? = w.heap[g]?) : RowOwn t size lo hi w' v n C := by
  obtain ⟨a, cap, rfl, h2, h3, hh⟩ := h
  refine ⟨a, cap, rfl, h2, h3, fun hn => ?_⟩
  obtain ⟨g, m, f, rfl, h4, h5, h6, h7, h8⟩ := hh hn
  exact ⟨g, m, f, rfl, h4, h5, h6, h7.of_block (hb g h4 h5 rfl hn h7.lt), h8⟩
theorem RowOwn.below {t : TypeId} {size lo hi : Nat} {w w' : World} {v : Value} {n : Nat} {C : (Nat → Value) → Prop} (h : RowOwn t size lo hi w v n C) (hb : Below w.heap.size w w') : RowOwn t size lo hi w' v n C := h.block fun g _ _ _ _ hg => hb.block g hg
/-- Written elsewhere. -/
theorem RowOwn.wr {t : TypeId} {size lo hi l h' : Nat} {w w' : World} {v : Value} {n : Nat} {C : (Nat → Value) → Prop} (h : RowOwn t size lo hi w v n C) (hw : Wr l h' w w') (hl : h' ≤ lo) : RowOwn t size lo hi w' v n C := h.block fun g h1 _ _ _ hg => hw.2.2.1 g (Nat.le_trans hl h1) hg
/-- Another row, of another type, was written. -/
theorem RowOwn.apart {t : TypeId} {size lo hi : Nat} {w w' : World} {v : Value} {n : Nat} {C : (Nat → Value) → Prop} (h : RowOwn t size lo hi w v n C) {t' : TypeId} {size' lo' hi' : Nat} {v' : Value} {n' : Nat} {C' : (Nat → Value) → Prop} (h' : RowOwn t' size' lo' hi' w v' n' C') (hne : t ≠ t') (hg : w.grownBy w' (if n' = 0 then none else v'.ownBlock)) : RowOwn t size lo hi w' v n C := by
  obtain ⟨a, cap, rfl, h2, h3, hh⟩ := h
  refine ⟨a, cap, rfl, h2, h3, fun hn => ?_⟩
  obtain ⟨g, m, f, rfl, h4, h5, h6, h7, h8⟩ := hh hn
  refine ⟨g, m, f, rfl, h4, h5, h6, h7.of_block (hg.block g h7.lt ?_), h8⟩
  split
  · simp
  · next hz =>
    obtain ⟨a', cap', rfl, _, _, hh'⟩ := h'
    obtain ⟨g', m', f', rfl, _, _, _, h7', _⟩ := hh' hz
    intro e
    have e2 : g = g' := by simpa [Value.ownBlock] using e
    subst e2
    obtain ⟨cur, hc, _⟩ := h7
    obtain ⟨cur', hc', _⟩ := h7'
    rw [hc] at hc'
    cases hc'
    exact hne rfl
theorem RowOwn.weak {t : TypeId} {size lo hi lo' hi' : Nat} {w : World} {v : Value} {n : Nat} {C : (Nat → Value) → Prop} (h : RowOwn t size lo hi w v n C) (h1 : lo' ≤ lo) (h2 : hi ≤ hi') : RowOwn t size lo' hi' w v n C := by
  obtain ⟨a, cap, hv, h3, h4, hh⟩ := h
  refine ⟨a, cap, hv, h3, h4, fun hn => ?_⟩
  obtain ⟨g, m, f, ha, k1, k2, k3, k4, k5⟩ := hh hn
  exact ⟨g, m, f, ha, Nat.le_trans h1 k1, Nat.lt_of_lt_of_le k2 h2, k3, k4, k5⟩
theorem RowOwn.imp {t : TypeId} {size lo hi : Nat} {w : World} {v : Value} {n : Nat} {C D : (Nat → Value) → Prop} (h : RowOwn t size lo hi w v n C) (hc : ∀ f, C f → D f) : RowOwn t size lo hi w v n D := by
  obtain ⟨a, cap, hv, h3, h4, hh⟩ := h
  refine ⟨a, cap, hv, h3, h4, fun hn => ?_⟩
  obtain ⟨g, m, f, ha, k1, k2, k3, k4, k5⟩ := hh hn
  exact ⟨g, m, f, ha, k1, k2, k3, k4, hc f k5⟩
/-- The shape is kept by what keeps shapes. -/
theorem RowOwn.shape {t : TypeId} {size lo hi l h' : Nat} {w w' : World} {v : Value} {n : Nat} {C : (Nat → Value) → Prop} (h : RowOwn t size lo hi w v n C) (hw : Wr l h' w w') : RowOwn t size lo hi w' v n (fun _ => True) := by
  obtain ⟨a, cap, hv, h3, h4, hh⟩ := h
  refine ⟨a, cap, hv, h3, h4, fun hn => ?_⟩
  obtain ⟨g, m, f, ha, k1, k2, k3, k4, k5⟩ := hh hn
  obtain ⟨f', h5⟩ := hw.2.2.2 g _ _ _ k4
  exact ⟨g, m, f', ha, k1, k2, k3, h5, trivial⟩
theorem Wr.of_below {lo hi : Nat} {w w' : World} (h : Below w.heap.size w w') (hlo : lo ≤ w.heap.size) : Wr lo hi w w' :=
  ⟨h.mono hlo, h.size, fun b _ hb => h.block b hb, fun b t n f hf => ⟨f, hf.of_block (h.block b hf.lt)⟩⟩
theorem Wr.sz {lo hi : Nat} {w w' : World} (h : Wr lo hi w w') : w.heap.size ≤ w'.heap.size := h.2.1
/-- The row that a call writes. -/
def rowOf (v : Value) (n : Nat) : Option Nat := if n = 0 then none else v.ownBlock
theorem rowOf_zero (v : Value) : rowOf v 0 = none := rfl
theorem rowOf_pos {n : Nat} (h : n ≠ 0) (g c : Nat) : rowOf (.slice (some ⟨g, 0, none⟩) n c) n = some g := if_neg h
end Go.Proofs.YthedglgljehmgaaGreatDoor
