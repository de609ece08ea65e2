/-
  NARROWER THAN 'FOR EVERY INPUT', by the rows' own cells (each row's printed sentence says how): FnKeyFar: laid · FnWeighFar: laid.
  DERIVED. THE GIVEN ROWS OF THIS SEAT. 2 by the template 'for every input the law returns true; each argument reads behind the call as it read before'; 0 by the template 'total and deterministic' (their statements: YtbebikodkfmehaaDoorTotals.lean).
  GIVEN WITH THE SEED: the statements are not yours to turn. If you find one false, say at which input.
  Laid BY PROGRAM, IN A SANDBOX (cutbox-rows.mjs): the forced cells as the released guide's own fill.sh prints them over the translation 8a79f849173cfbc2… (all of the seat's roots in one cut). By AI agents, Wed Nov 11 2026. No macro, syntax, notation, axiom, sorry.
-/
import Derived.Test.YtbebikodkfmehaaDoorChecked
import GoSem.Claim
import GoSem.ClaimJoined
import GoSem.ClaimMapViews
import Derived.JoinedTies
import Derived.KernelRfl
namespace Go.Proofs.YtbebikodkfmehaaDoor
/- THE CELL 'sum', in the pinned program and in every row, IS THE sha256 OF THE DUMP (.gsa) THAT YtbebikodkfmehaaDoorProg.lean LOADS. Nothing in Lean hashes anything: it is a label: what it is worth is what the hold of that sum in a sandbox is worth. -/
noncomputable def Tryd.pinned : Pinned := { name := "ytbebikodkfmehaadoor", sum := "8a79f849173cfbc28a00332684631e131723a6e7a43182451407751b3c8800c4", checked := Tryd.checked }
namespace Rows
def none {H : Type} : Left H := { results := [], args := [] }

/- WHAT THE LISTED PACKAGE-LEVEL VARIABLES READ AS WHEN THE CALL BEGINS. Each datum BY PROGRAM (the guide's laid-datum.mjs) off the statement by which the dump's own 'gosem.cut.vars' lays the variable. In a bare row this is a premise. The card (YtbebikodkfmehaaDoorCards.lean) ties it to the program's text. -/
def laid_loop_example_medlar_impl_keyRows {H : Type} : DataW H := .agg [.lit (.string [113, 119, 101, 114, 116, 121, 117, 105, 111, 112]), .lit (.string [97, 115, 100, 102, 103, 104, 106, 107, 108]), .lit (.string [122, 120, 99, 118, 98, 110, 109])]

/-- 'laws.FnKeyFar': WHATEVER THE INPUT: true; the input reads as it did. -/
def fnKeyFarSpec : ChangeSpec := { name := "fnKeyFar", vars := ["loop.example/medlar/impl.keyRows"], fn := fun _ => fun
  | [d, g1] => { results := [.lit (.bool true)], args := [d], vars := [g1] }
  | _ => none }
def fnKeyFarRow : OpenClaim := { program := "ytbebikodkfmehaadoor", sum := "8a79f849173cfbc28a00332684631e131723a6e7a43182451407751b3c8800c4", func := "loop.example/medlar/laws.FnKeyFar", spec := "fnKeyFar", inPlace := ["internal/bytealg.IndexByteString", "internal/bytealg.IndexString"], named := ["loop.example/medlar/impl.keyRows", "internal/bytealg.MaxLen"], apart := false, laid := [("loop.example/medlar/impl.keyRows", laid_loop_example_medlar_impl_keyRows)] }
def FnKeyFarSaid : Prop := fnKeyFarRow.holds Tryd.pinned (OpenSpec.ofChange fnKeyFarSpec)

/-- ITS FALSE NEIGHBOUR: 'it returns false'. Refute it at one input. -/
def fnKeyFarWrong : ChangeSpec := { name := "fnKeyFar", vars := ["loop.example/medlar/impl.keyRows"], fn := fun _ => fun
  | [d, g1] => { results := [.lit (.bool false)], args := [d], vars := [g1] }
  | _ => none }
def FnKeyFarWrongFalsely : Prop := fnKeyFarRow.holds Tryd.pinned (OpenSpec.ofChange fnKeyFarWrong)

/-- 'laws.FnWeighFar': WHATEVER THE INPUT: true; the input reads as it did. -/
def fnWeighFarSpec : ChangeSpec := { name := "fnWeighFar", vars := ["loop.example/medlar/impl.keyRows"], fn := fun _ => fun
  | [d, g1] => { results := [.lit (.bool true)], args := [d], vars := [g1] }
  | _ => none }
def fnWeighFarRow : OpenClaim := { program := "ytbebikodkfmehaadoor", sum := "8a79f849173cfbc28a00332684631e131723a6e7a43182451407751b3c8800c4", func := "loop.example/medlar/laws.FnWeighFar", spec := "fnWeighFar", inPlace := ["internal/bytealg.IndexByteString", "internal/bytealg.IndexString"], named := ["loop.example/medlar/impl.keyRows", "internal/bytealg.MaxLen"], apart := false, laid := [("loop.example/medlar/impl.keyRows", laid_loop_example_medlar_impl_keyRows)] }
def FnWeighFarSaid : Prop := fnWeighFarRow.holds Tryd.pinned (OpenSpec.ofChange fnWeighFarSpec)

/-- ITS FALSE NEIGHBOUR: 'it returns false'. Refute it at one input. -/
def fnWeighFarWrong : ChangeSpec := { name := "fnWeighFar", vars := ["loop.example/medlar/impl.keyRows"], fn := fun _ => fun
  | [d, g1] => { results := [.lit (.bool false)], args := [d], vars := [g1] }
  | _ => none }
def FnWeighFarWrongFalsely : Prop := fnWeighFarRow.holds Tryd.pinned (OpenSpec.ofChange fnWeighFarWrong)

/- THE SECOND FORM. 'bulk': how many values and letters a reading holds, each counted each time it is reached (what is shared counts as often as it is met; a slice's spare places count too). A statement '..UptoSaid' is the law's where the arguments, and the package variables that the reading takes, are together of bulk at most 1048576: NARROWER than '..Said'. Prove '..Said' where nothing that the law and all that it calls make is longer than what came in: it says more and counts as full. Else prove '..UptoSaid'. A law counts once. -/
mutual
def uptoBulk {H : Type} : DataW H → Nat
  | .lit (.string bytes) => bytes.length + 1
  | .lit _ => 1
  | .nil => 1
  | .ptr d => uptoBulk d + 1
  | .slice elems spare => uptoBulkAll elems + uptoBulkAll spare + 1
  | .agg parts => uptoBulkAll parts + 1
  | .iface _ d => uptoBulk d + 1
  | .map entries => uptoBulkEntries entries + 1
  | .held _ => 1
def uptoBulkAll {H : Type} : List (DataW H) → Nat
  | [] => 0
  | d :: r => uptoBulk d + uptoBulkAll r
def uptoBulkEntries {H : Type} : List (Lit × DataW H) → Nat
  | [] => 0
  | x :: r => uptoBulkEntry x + uptoBulkEntries r
def uptoBulkEntry {H : Type} : Lit × DataW H → Nat
  | (.string bytes, d) => bytes.length + uptoBulk d + 1
  | (_, d) => uptoBulk d + 1
 end
def uptoSmall : (H : Type) → List (DataW H) → Bool := fun _ ds => decide (uptoBulkAll ds ≤ 1048576)
def OpenSpec.upto (s : _root_.Go.ChangeSpec) : _root_.Go.OpenSpec := { _root_.Go.OpenSpec.ofChange s with cond := some uptoSmall }

/-- 'laws.FnKeyFar', WHERE WHAT IT READS IS OF BULK AT MOST 1048576: true; the input reads as it did. -/
def fnKeyFarUptoRow : OpenClaim := { program := "ytbebikodkfmehaadoor", sum := "8a79f849173cfbc28a00332684631e131723a6e7a43182451407751b3c8800c4", func := "loop.example/medlar/laws.FnKeyFar", spec := "fnKeyFar", inPlace := ["internal/bytealg.IndexByteString", "internal/bytealg.IndexString"], named := ["loop.example/medlar/impl.keyRows", "internal/bytealg.MaxLen"], apart := false, laid := [("loop.example/medlar/impl.keyRows", laid_loop_example_medlar_impl_keyRows)], narrowed := true }
def FnKeyFarUptoSaid : Prop := fnKeyFarUptoRow.holds Tryd.pinned (OpenSpec.upto fnKeyFarSpec)

/-- 'laws.FnWeighFar', WHERE WHAT IT READS IS OF BULK AT MOST 1048576: true; the input reads as it did. -/
def fnWeighFarUptoRow : OpenClaim := { program := "ytbebikodkfmehaadoor", sum := "8a79f849173cfbc28a00332684631e131723a6e7a43182451407751b3c8800c4", func := "loop.example/medlar/laws.FnWeighFar", spec := "fnWeighFar", inPlace := ["internal/bytealg.IndexByteString", "internal/bytealg.IndexString"], named := ["loop.example/medlar/impl.keyRows", "internal/bytealg.MaxLen"], apart := false, laid := [("loop.example/medlar/impl.keyRows", laid_loop_example_medlar_impl_keyRows)], narrowed := true }
def FnWeighFarUptoSaid : Prop := fnWeighFarUptoRow.holds Tryd.pinned (OpenSpec.upto fnWeighFarSpec)

end Rows
end Go.Proofs.YtbebikodkfmehaaDoor
