/-
  spec.l2In, spec.l2Words, spec.BookKnows, spec.BookStems.
-/
import Derived.Test.YtdhmefinbmkdaaaW151
import Derived.Test.YtdhmefinbmkdaaaW78
import Derived.Test.YtdhmefinbmkdaaaW129
import Derived.Deep.RegionHeld3
namespace Go.Proofs.Ytdhmefinbmkdaaa
open Go.RowKit
set_option linter.unusedVariables false
theorem hasW_take {l : List ByteArray} {k : Nat} {x : ByteArray} (hx : l[k]? = some x) (s : ByteArray) : hasW (l.take (k + 1)) s = (hasW (l.take k) s || decide (x = s)) := by
  unfold hasW
  rw [List.take_add_one, hx]
  simp
theorem hasW_mem {l : List ByteArray} {k : Nat} {x : ByteArray} (hx : l[k]? = some x) : hasW l x = true := (hasW_iff l x).2 (List.mem_of_getElem? hx)
theorem toList_inj {a b : ByteArray} (h : a.toList = b.toList) : a = b := by
  rw [ByteArray.toList_eq, ByteArray.toList_eq] at h
  cases a; cases b
  simp only [ByteArray.mk.injEq]
  exact Array.toList_inj.1 h
theorem row_none (w : World) : TextRow (w.alloc (.cells #[] 9)) (.slice (some ⟨w.heap.size, 0, none⟩) 0 0) [] :=
  ⟨_, 0, rfl, Nat.le_refl _, fun i s hs => by simp at hs, _, heap_alloc_last _ _⟩
end Go.Proofs.Ytdhmefinbmkdaaa
