/-
  No cell of these rows narrows 'for every input' (looked for: loops, veiled, ifaces, maps, wideKeys, modest, calm, conditions, laid).
  DERIVED. THE GIVEN ROWS OF THIS SEAT. 3 by the template 'for every input the law returns true; each argument reads behind the call as it read before'; 0 by the template 'total and deterministic' (their statements: YtkcobbeilhphjaaTotals.lean).
  GIVEN WITH THE SEED: the statements are not yours to turn. If you find one false, say at which input.
  Laid BY PROGRAM, IN A SANDBOX (cutbox-rows.mjs): the forced cells as the released guide's own fill.sh prints them over the translation dad2f993f12987d6… (all of the seat's roots in one cut). By AI agents, Wed Nov 11 2026. No macro, syntax, notation, axiom, sorry.
-/
import Derived.Test.YtkcobbeilhphjaaChecked
import GoSem.Claim
import GoSem.ClaimJoined
import GoSem.ClaimMapViews
import Derived.JoinedTies
import Derived.KernelRfl
namespace Go.Proofs.Ytkcobbeilhphjaa
/- THE CELL 'sum', in the pinned program and in every row, IS THE sha256 OF THE DUMP (.gsa) THAT YtkcobbeilhphjaaProg.lean LOADS. Nothing in Lean hashes anything: it is a label: what it is worth is what the hold of that sum in a sandbox is worth. -/
noncomputable def Try.pinned : Pinned := { name := "ytkcobbeilhphjaa", sum := "dad2f993f12987d62705ff672460f0ce10222d65601d0969f0872a10250afb20", checked := Try.checked }
namespace Rows
def none {H : Type} : Left H := { results := [], args := [] }

/-- 'laws.FnExactPatternOk': WHATEVER THE INPUT: true; the input reads as it did. -/
def fnExactPatternOkSpec : ChangeSpec := { name := "fnExactPatternOk", fn := fun _ => fun
  | [d] => { results := [.lit (.bool true)], args := [d] }
  | _ => none }
def fnExactPatternOkRow : OpenClaim := { program := "ytkcobbeilhphjaa", sum := "dad2f993f12987d62705ff672460f0ce10222d65601d0969f0872a10250afb20", func := "loop.example/medlar/laws.FnExactPatternOk", spec := "fnExactPatternOk", apart := false }
def FnExactPatternOkSaid : Prop := fnExactPatternOkRow.holds Try.pinned (OpenSpec.ofChange fnExactPatternOkSpec)

/-- ITS FALSE NEIGHBOUR: 'it returns false'. Refute it at one input. -/
def fnExactPatternOkWrong : ChangeSpec := { name := "fnExactPatternOk", fn := fun _ => fun
  | [d] => { results := [.lit (.bool false)], args := [d] }
  | _ => none }
def FnExactPatternOkWrongFalsely : Prop := fnExactPatternOkRow.holds Try.pinned (OpenSpec.ofChange fnExactPatternOkWrong)

/-- 'laws.FnExactPatternPut': WHATEVER THE INPUT: true; the input reads as it did. -/
def fnExactPatternPutSpec : ChangeSpec := { name := "fnExactPatternPut", fn := fun _ => fun
  | [d] => { results := [.lit (.bool true)], args := [d] }
  | _ => none }
def fnExactPatternPutRow : OpenClaim := { program := "ytkcobbeilhphjaa", sum := "dad2f993f12987d62705ff672460f0ce10222d65601d0969f0872a10250afb20", func := "loop.example/medlar/laws.FnExactPatternPut", spec := "fnExactPatternPut", inPlace := ["internal/abi.NoEscape"], recurses := true, apart := false }
def FnExactPatternPutSaid : Prop := fnExactPatternPutRow.holds Try.pinned (OpenSpec.ofChange fnExactPatternPutSpec)

/-- ITS FALSE NEIGHBOUR: 'it returns false'. Refute it at one input. -/
def fnExactPatternPutWrong : ChangeSpec := { name := "fnExactPatternPut", fn := fun _ => fun
  | [d] => { results := [.lit (.bool false)], args := [d] }
  | _ => none }
def FnExactPatternPutWrongFalsely : Prop := fnExactPatternPutRow.holds Try.pinned (OpenSpec.ofChange fnExactPatternPutWrong)

/-- 'laws.FnExactPatternGet': WHATEVER THE INPUT: true; the input reads as it did. -/
def fnExactPatternGetSpec : ChangeSpec := { name := "fnExactPatternGet", fn := fun _ => fun
  | [d] => { results := [.lit (.bool true)], args := [d] }
  | _ => none }
def fnExactPatternGetRow : OpenClaim := { program := "ytkcobbeilhphjaa", sum := "dad2f993f12987d62705ff672460f0ce10222d65601d0969f0872a10250afb20", func := "loop.example/medlar/laws.FnExactPatternGet", spec := "fnExactPatternGet", inPlace := ["internal/abi.NoEscape"], recurses := true, apart := false }
def FnExactPatternGetSaid : Prop := fnExactPatternGetRow.holds Try.pinned (OpenSpec.ofChange fnExactPatternGetSpec)

/-- ITS FALSE NEIGHBOUR: 'it returns false'. Refute it at one input. -/
def fnExactPatternGetWrong : ChangeSpec := { name := "fnExactPatternGet", fn := fun _ => fun
  | [d] => { results := [.lit (.bool false)], args := [d] }
  | _ => none }
def FnExactPatternGetWrongFalsely : Prop := fnExactPatternGetRow.holds Try.pinned (OpenSpec.ofChange fnExactPatternGetWrong)

/- THE SECOND FORM. 'bulk': how many values and letters a reading holds, each counted each time it is reached (what is shared counts as often as it is met; a slice's spare places count too). A statement '..UptoSaid' is the law's where the arguments, and the package variables that the reading takes, are together of bulk at most 1048576: NARROWER than '..Said'. Prove '..Said' where nothing that the law and all that it calls make is longer than what came in: it says more and counts as full. Else prove '..UptoSaid'. A law counts once. -/
mutual
def uptoBulk {H : Type} : DataW H → Nat
  | .lit (.string bytes) => bytes.length + 1
  | .lit _ => 1
  | .nil => 1
  | .ptr d => uptoBulk d + 1
  | .slice elems spare => uptoBulkAll elems + uptoBulkAll spare + 1
  | .agg parts => uptoBulkAll parts + 1
  | .iface _ d => uptoBulk d + 1
  | .map entries => uptoBulkEntries entries + 1
  | .held _ => 1
def uptoBulkAll {H : Type} : List (DataW H) → Nat
  | [] => 0
  | d :: r => uptoBulk d + uptoBulkAll r
def uptoBulkEntries {H : Type} : List (Lit × DataW H) → Nat
  | [] => 0
  | x :: r => uptoBulkEntry x + uptoBulkEntries r
def uptoBulkEntry {H : Type} : Lit × DataW H → Nat
  | (.string bytes, d) => bytes.length + uptoBulk d + 1
  | (_, d) => uptoBulk d + 1
 end
def uptoSmall : (H : Type) → List (DataW H) → Bool := fun _ ds => decide (uptoBulkAll ds ≤ 1048576)
def OpenSpec.upto (s : _root_.Go.ChangeSpec) : _root_.Go.OpenSpec := { _root_.Go.OpenSpec.ofChange s with cond := some uptoSmall }

/-- 'laws.FnExactPatternOk', WHERE WHAT IT READS IS OF BULK AT MOST 1048576: true; the input reads as it did. -/
def fnExactPatternOkUptoRow : OpenClaim := { program := "ytkcobbeilhphjaa", sum := "dad2f993f12987d62705ff672460f0ce10222d65601d0969f0872a10250afb20", func := "loop.example/medlar/laws.FnExactPatternOk", spec := "fnExactPatternOk", apart := false, narrowed := true }
def FnExactPatternOkUptoSaid : Prop := fnExactPatternOkUptoRow.holds Try.pinned (OpenSpec.upto fnExactPatternOkSpec)

/-- 'laws.FnExactPatternPut', WHERE WHAT IT READS IS OF BULK AT MOST 1048576: true; the input reads as it did. -/
def fnExactPatternPutUptoRow : OpenClaim := { program := "ytkcobbeilhphjaa", sum := "dad2f993f12987d62705ff672460f0ce10222d65601d0969f0872a10250afb20", func := "loop.example/medlar/laws.FnExactPatternPut", spec := "fnExactPatternPut", inPlace := ["internal/abi.NoEscape"], recurses := true, apart := false, narrowed := true }
def FnExactPatternPutUptoSaid : Prop := fnExactPatternPutUptoRow.holds Try.pinned (OpenSpec.upto fnExactPatternPutSpec)

/-- 'laws.FnExactPatternGet', WHERE WHAT IT READS IS OF BULK AT MOST 1048576: true; the input reads as it did. -/
def fnExactPatternGetUptoRow : OpenClaim := { program := "ytkcobbeilhphjaa", sum := "dad2f993f12987d62705ff672460f0ce10222d65601d0969f0872a10250afb20", func := "loop.example/medlar/laws.FnExactPatternGet", spec := "fnExactPatternGet", inPlace := ["internal/abi.NoEscape"], recurses := true, apart := false, narrowed := true }
def FnExactPatternGetUptoSaid : Prop := fnExactPatternGetUptoRow.holds Try.pinned (OpenSpec.upto fnExactPatternGetSpec)

end Rows
end Go.Proofs.Ytkcobbeilhphjaa
