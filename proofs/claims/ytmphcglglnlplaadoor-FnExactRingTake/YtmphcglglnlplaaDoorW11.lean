/-
  The reader of a drawn code: what one pick does to memory, and what it tells.
-/
import Derived.Test.YtmphcglglnlplaaDoorProg
import Derived.WalkKit
import Derived.WalkSpells
import Derived.WalkLawsBesides
import Derived.Deep.QuietTactic
import Derived.BigQuiet
import Derived.Lib.SmallJoins
import Derived.Deep.WholeRow
namespace Go.Proofs.YtmphcglglnlplaaDoor
open Go.RowKit
set_option linter.unusedVariables false
/-- What was there is as it was, but for one block. -/
structure Kept (blk : Nat) (w w' : World) : Prop where
  os : w'.os = w.os
  tape : w'.tape = w.tape
  output : w'.output = w.output
  size : w.heap.size ≤ w'.heap.size
  block : ∀ k, k < w.heap.size → k ≠ blk → w'.heap[k]? = w.heap[k]?
theorem Kept.refl (blk : Nat) (w : World) : Kept blk w w := ⟨rfl, rfl, rfl, Nat.le_refl _, fun _ _ _ => rfl⟩
theorem Kept.trans {blk : Nat} {a b c : World} (h : Kept blk a b) (k : Kept blk b c) : Kept blk a c :=
  ⟨k.os.trans h.os, k.tape.trans h.tape, k.output.trans h.output, Nat.le_trans h.size k.size, fun i hi hn => (k.block i (Nat.lt_of_lt_of_le hi h.size) hn).trans (h.block i hi hn)⟩
theorem Kept.of_below {blk : Nat} {a b : World} (h : Below a.heap.size a b) : Kept blk a b := ⟨h.os, h.tape, h.output, h.size, fun k hk _ => h.block k hk⟩
theorem Kept.drewN {blk : Nat} {a b : World} (h : Kept blk a b) (n : Nat) : Kept blk a (b.drewN n) := ⟨h.os, h.tape, h.output, h.size, h.block⟩
theorem Kept.alloc {blk : Nat} {a b : World} (h : Kept blk a b) (o : Obj) : Kept blk a (b.alloc o) :=
  h.trans (Kept.of_below ((Below.refl _ _).alloc (Nat.le_refl _) _))
theorem Kept.setCell {blk : Nat} {a b : World} (h : Kept blk a b) (i : Nat) (v : Value) : Kept blk a (b.setCell ⟨blk, i, none⟩ v) :=
  h.trans ⟨rfl, rfl, rfl, by simp, fun k _ hn => Below.heap_setCell b _ v k hn⟩
theorem Kept.cell {blk : Nat} {w w' : World} (h : Kept blk w w') {p : Addr} (hp : p.block < w.heap.size) (hn : p.block ≠ blk) : w'.cell? p = w.cell? p := World.cell?_of_block (w := w) (h.block p.block hp hn)
/-- Where the one block is new, nothing that was there has turned. -/
theorem Kept.below {blk : Nat} {w0 w w' : World} (h : Kept blk w w') (hb : Below w0.heap.size w0 w) (hn : w0.heap.size ≤ blk) : Below w0.heap.size w0 w' :=
  hb.trans ⟨h.os, h.tape, h.output, h.size, fun k hk => h.block k (Nat.lt_of_lt_of_le hk hb.size) (by omega)⟩
end Go.Proofs.YtmphcglglnlplaaDoor
