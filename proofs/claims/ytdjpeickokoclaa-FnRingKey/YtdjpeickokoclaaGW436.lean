/-
  A sum in memory; the numbers of the rounds as a package variable.
-/
import Derived.Test.YtdjpeickokoclaaGW434
import Derived.Test.YtdjpeickokoclaaW431
import Derived.Test.YtdjpeickokoclaaGM30
import Derived.Deep.MidRow
import Derived.Lib.LaidTab
namespace Go.Proofs.Ytdjpeickokoclaa
open Go.RowKit
set_option linter.unusedVariables false
theorem wn_bw (b : UInt8) : wn (bw b) = (b.toNat : Int) := by
  have h : b.toNat < 256 := b.toNat_lt
  unfold wn bw
  rw [BitVec.toNat_ofNat, Nat.mod_eq_of_lt (Nat.lt_trans h (by decide))]
theorem wordCells_at {l : List Wd} {i : Nat} (h : i < l.length) : (wordCells l)[i]? = some (.int .u32 (wn (wAt l i))) := by
  unfold wordCells wAt
  rw [List.getElem?_map, List.getElem?_eq_getElem h, List.getD_eq_getElem?_getD, List.getElem?_eq_getElem h]
  rfl
/-- What a sum begins with, as the program's text lays it. -/
def iv0 : Wds := ⟨1779033703#32, 3144134277#32, 1013904242#32, 2773480762#32, 1359893119#32, 2600822924#32, 528734635#32, 1541459225#32⟩
end Go.Proofs.Ytdjpeickokoclaa
/-
  A block mixed into a sum: (*impl.sumState).mix.
-/
namespace Go.Proofs.Ytdjpeickokoclaa
open Go.RowKit
set_option linter.unusedVariables false
theorem step_load_row {P : Program} {ops : Array Oper} {o : Oper} {a : Act} {w : World} {K : Act → World → Prop} {Q : Exit → Act → World → Prop} {E : Prop} (hgd : o.guard = none) (ty : TypeId) (x : Operand) (ho : o.op = .load ty x)
    (g : Nat) (hx : a.eval x = .pointer (some ⟨g, 0, none⟩)) (t : TypeId) (cs : Array Value) (fr : Nat × Nat) (d : TypeDesc) (hg : w.heap[g]? = some (.cells cs t fr))
    (hu : P.underlying ty = some d) (hd : (match d with | .struct _ | .array _ _ => true | _ => false) = true) (hi : (P.info? ty).map (·.size) = some cs.size) {n : Nat} (hn : o.dst = some n)
    (h : K (a.put (some n) (.agg cs)) w) : if Region.wanted o (yielded ops a.tmps) = true then Oper.wp P o a w K Q else E := by
  have hw : Region.wanted o (yielded ops a.tmps) = true := by simp [Region.wanted, hgd]
  rw [if_pos hw]
  exact wp_load_row ty x ho g hx t cs fr d hg hu hd hi (by rw [hn]; exact h)
theorem step_store_row {P : Program} {ops : Array Oper} {o : Oper} {a : Act} {w : World} {K : Act → World → Prop} {Q : Exit → Act → World → Prop} {E : Prop} (hgd : o.guard = none) (ty : TypeId) (x y : Operand) (ho : o.op = .store ty x y)
    (g : Nat) (cells : Array Value) (hx : a.eval x = .pointer (some ⟨g, 0, none⟩)) (hy : a.eval y = .agg cells)
    (t : TypeId) (old : Array Value) (hg : w.heap[g]? = some (.cells old t (0, 0))) (hi : (P.info? ty).map (·.size) = some cells.size)
    (hold : old.size = cells.size) (h1 : cells.all (·.oneCell') = true) (hn : o.dst = none)
    (h : K a (w.setRow g cells)) : if Region.wanted o (yielded ops a.tmps) = true then Oper.wp P o a w K Q else E := by
  have hw : Region.wanted o (yielded ops a.tmps) = true := by simp [Region.wanted, hgd]
  rw [if_pos hw]
  exact wp_store_row ty x y ho g cells hx hy t old hg hi hold h1 (by rw [hn]; exact h)
end Go.Proofs.Ytdjpeickokoclaa
