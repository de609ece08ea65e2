/-
  A change that a law is given: opened, its size, a copy of it, held against another one.
-/
import Derived.Test.YtmjhgniilhbgeaaGreatDoorW110
import Derived.Test.YtmjhgniilhbgeaaGreatDoorW72
import Derived.Test.YtmjhgniilhbgeaaGreatDoorW74
namespace Go.Proofs.YtmjhgniilhbgeaaGreatDoor
open Go.ChangeShapes Go.WideShapes Go.ChangeAt Go.RowKit
set_option linter.unusedVariables false
theorem rowIs_new {w : World} (arr : Array Value) (t : TypeId) : (w.alloc (.cells arr t)).rowIs w.heap.size t arr.size (fun i => arr[i]?.getD .nilFunc) :=
  ⟨arr, Go.Deep.blk_alloc_new _ _, rfl, fun i hi => by simp [hi]⟩
theorem rowIs_other {w : World} {b n : Nat} {t : TypeId} {f : Nat → Value} (h : w.rowIs b t n f) {p : Addr} (hp : b ≠ p.block) (u : Value) : (w.setCell p u).rowIs b t n f :=
  h.of_block (Below.heap_setCell _ _ _ b hp)
theorem TextsAt.set {w : World} {b off n cap : Nat} {xs : List ByteArray} (h : TextsAt w (.slice (some ⟨b, off, none⟩) n cap) xs) {p : Addr} (hp : b ≠ p.block) (u : Value) : TextsAt (w.setCell p u) (.slice (some ⟨b, off, none⟩) n cap) xs := by
  obtain ⟨a, cap', hv, hc, hm, hf, hh⟩ := h
  refine ⟨a, cap', hv, hc, hm, hf, fun hn => ?_⟩
  obtain ⟨b', off', ha, h2, h3⟩ := hh hn
  cases ha
  cases hv
  refine ⟨b, off, rfl, by rw [Go.Deep.nblk_setCell]; exact h2, fun i x hx => ?_⟩
  rw [World.cell?_setCell_other _ _ _ _ (by intro e; first | exact hp (congrArg Addr.block e) | exact hp (congrArg Addr.block e).symm)]
  exact h3 i x hx
end Go.Proofs.YtmjhgniilhbgeaaGreatDoor
