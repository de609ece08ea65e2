/-
  spec.BookOk.
-/
import Derived.Test.YtdhmefinbmkdaaaW77
namespace Go.Proofs.Ytdhmefinbmkdaaa
open Go.RowKit
set_option linter.unusedVariables false
theorem below_step78 {w wr w1 : World} (h : Below w.heap.size w wr) (hb : Below (World.drew wr).heap.size (World.drew wr) w1) : Below w.heap.size w w1 := h.drew.trans (hb.mono h.size)
end Go.Proofs.Ytdhmefinbmkdaaa
