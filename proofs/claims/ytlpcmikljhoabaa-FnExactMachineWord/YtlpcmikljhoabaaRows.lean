/-
  No cell of these rows narrows 'for every input' (looked for: loops, veiled, ifaces, maps, wideKeys, modest, calm, conditions, laid).
  DERIVED. THE GIVEN ROWS OF THIS SEAT. 5 by the template 'for every input the law returns true; each argument reads behind the call as it read before'; 0 by the template 'total and deterministic' (their statements: YtlpcmikljhoabaaTotals.lean).
  GIVEN WITH THE SEED: the statements are not yours to turn. If you find one false, say at which input.
  Laid BY PROGRAM, IN A SANDBOX (cutbox-rows.mjs): the forced cells as the released guide's own fill.sh prints them over the translation 945723d6bd36352e… (all of the seat's roots in one cut). By AI agents, Wed Nov 11 2026. No macro, syntax, notation, axiom, sorry.
-/
import Derived.Test.YtlpcmikljhoabaaChecked
import GoSem.Claim
import GoSem.ClaimJoined
import GoSem.ClaimMapViews
import Derived.JoinedTies
import Derived.KernelRfl
namespace Go.Proofs.Ytlpcmikljhoabaa
/- THE CELL 'sum', in the pinned program and in every row, IS THE sha256 OF THE DUMP (.gsa) THAT YtlpcmikljhoabaaProg.lean LOADS. Nothing in Lean hashes anything: it is a label: what it is worth is what the hold of that sum in a sandbox is worth. -/
noncomputable def Try.pinned : Pinned := { name := "ytlpcmikljhoabaa", sum := "945723d6bd36352e06241c3b05380ef88013e8e5b5456b176ca58d984337cb03", checked := Try.checked }
namespace Rows
def none {H : Type} : Left H := { results := [], args := [] }

/-- 'laws.FnExactMachineKnows': WHATEVER THE INPUT: true; the input reads as it did. -/
def fnExactMachineKnowsSpec : ChangeSpec := { name := "fnExactMachineKnows", fn := fun _ => fun
  | [d1, d2] => { results := [.lit (.bool true)], args := [d1, d2] }
  | _ => none }
def fnExactMachineKnowsRow : OpenClaim := { program := "ytlpcmikljhoabaa", sum := "945723d6bd36352e06241c3b05380ef88013e8e5b5456b176ca58d984337cb03", func := "loop.example/medlar/laws.FnExactMachineKnows", spec := "fnExactMachineKnows", unfollowed := true, recurses := true, apart := false }
def FnExactMachineKnowsSaid : Prop := fnExactMachineKnowsRow.holds Try.pinned (OpenSpec.ofChange fnExactMachineKnowsSpec)

/-- ITS FALSE NEIGHBOUR: 'it returns false'. Refute it at one input. -/
def fnExactMachineKnowsWrong : ChangeSpec := { name := "fnExactMachineKnows", fn := fun _ => fun
  | [d1, d2] => { results := [.lit (.bool false)], args := [d1, d2] }
  | _ => none }
def FnExactMachineKnowsWrongFalsely : Prop := fnExactMachineKnowsRow.holds Try.pinned (OpenSpec.ofChange fnExactMachineKnowsWrong)

/-- 'laws.FnExactMachineCount': WHATEVER THE INPUT: true; the input reads as it did. -/
def fnExactMachineCountSpec : ChangeSpec := { name := "fnExactMachineCount", fn := fun _ => fun
  | [d] => { results := [.lit (.bool true)], args := [d] }
  | _ => none }
def fnExactMachineCountRow : OpenClaim := { program := "ytlpcmikljhoabaa", sum := "945723d6bd36352e06241c3b05380ef88013e8e5b5456b176ca58d984337cb03", func := "loop.example/medlar/laws.FnExactMachineCount", spec := "fnExactMachineCount", apart := false }
def FnExactMachineCountSaid : Prop := fnExactMachineCountRow.holds Try.pinned (OpenSpec.ofChange fnExactMachineCountSpec)

/-- ITS FALSE NEIGHBOUR: 'it returns false'. Refute it at one input. -/
def fnExactMachineCountWrong : ChangeSpec := { name := "fnExactMachineCount", fn := fun _ => fun
  | [d] => { results := [.lit (.bool false)], args := [d] }
  | _ => none }
def FnExactMachineCountWrongFalsely : Prop := fnExactMachineCountRow.holds Try.pinned (OpenSpec.ofChange fnExactMachineCountWrong)

/-- 'laws.FnExactMachineRank': WHATEVER THE INPUT: true; the input reads as it did. -/
def fnExactMachineRankSpec : ChangeSpec := { name := "fnExactMachineRank", fn := fun _ => fun
  | [d1, d2] => { results := [.lit (.bool true)], args := [d1, d2] }
  | _ => none }
def fnExactMachineRankRow : OpenClaim := { program := "ytlpcmikljhoabaa", sum := "945723d6bd36352e06241c3b05380ef88013e8e5b5456b176ca58d984337cb03", func := "loop.example/medlar/laws.FnExactMachineRank", spec := "fnExactMachineRank", unfollowed := true, recurses := true, apart := false }
def FnExactMachineRankSaid : Prop := fnExactMachineRankRow.holds Try.pinned (OpenSpec.ofChange fnExactMachineRankSpec)

/-- ITS FALSE NEIGHBOUR: 'it returns false'. Refute it at one input. -/
def fnExactMachineRankWrong : ChangeSpec := { name := "fnExactMachineRank", fn := fun _ => fun
  | [d1, d2] => { results := [.lit (.bool false)], args := [d1, d2] }
  | _ => none }
def FnExactMachineRankWrongFalsely : Prop := fnExactMachineRankRow.holds Try.pinned (OpenSpec.ofChange fnExactMachineRankWrong)

/-- 'laws.FnExactMachineWord': WHATEVER THE INPUT: true; the input reads as it did. -/
def fnExactMachineWordSpec : ChangeSpec := { name := "fnExactMachineWord", fn := fun _ => fun
  | [d1, d2] => { results := [.lit (.bool true)], args := [d1, d2] }
  | _ => none }
def fnExactMachineWordRow : OpenClaim := { program := "ytlpcmikljhoabaa", sum := "945723d6bd36352e06241c3b05380ef88013e8e5b5456b176ca58d984337cb03", func := "loop.example/medlar/laws.FnExactMachineWord", spec := "fnExactMachineWord", inPlace := ["internal/abi.NoEscape"], unfollowed := true, recurses := true, apart := false }
def FnExactMachineWordSaid : Prop := fnExactMachineWordRow.holds Try.pinned (OpenSpec.ofChange fnExactMachineWordSpec)

/-- ITS FALSE NEIGHBOUR: 'it returns false'. Refute it at one input. -/
def fnExactMachineWordWrong : ChangeSpec := { name := "fnExactMachineWord", fn := fun _ => fun
  | [d1, d2] => { results := [.lit (.bool false)], args := [d1, d2] }
  | _ => none }
def FnExactMachineWordWrongFalsely : Prop := fnExactMachineWordRow.holds Try.pinned (OpenSpec.ofChange fnExactMachineWordWrong)

/-- 'laws.FnExactMachineOk': WHATEVER THE INPUT: true; the input reads as it did. -/
def fnExactMachineOkSpec : ChangeSpec := { name := "fnExactMachineOk", fn := fun _ => fun
  | [d] => { results := [.lit (.bool true)], args := [d] }
  | _ => none }
def fnExactMachineOkRow : OpenClaim := { program := "ytlpcmikljhoabaa", sum := "945723d6bd36352e06241c3b05380ef88013e8e5b5456b176ca58d984337cb03", func := "loop.example/medlar/laws.FnExactMachineOk", spec := "fnExactMachineOk", apart := false }
def FnExactMachineOkSaid : Prop := fnExactMachineOkRow.holds Try.pinned (OpenSpec.ofChange fnExactMachineOkSpec)

/-- ITS FALSE NEIGHBOUR: 'it returns false'. Refute it at one input. -/
def fnExactMachineOkWrong : ChangeSpec := { name := "fnExactMachineOk", fn := fun _ => fun
  | [d] => { results := [.lit (.bool false)], args := [d] }
  | _ => none }
def FnExactMachineOkWrongFalsely : Prop := fnExactMachineOkRow.holds Try.pinned (OpenSpec.ofChange fnExactMachineOkWrong)

/- THE SECOND FORM. 'bulk': how many values and letters a reading holds, each counted each time it is reached (what is shared counts as often as it is met; a slice's spare places count too). A statement '..UptoSaid' is the law's where the arguments, and the package variables that the reading takes, are together of bulk at most 1048576: NARROWER than '..Said'. Prove '..Said' where nothing that the law and all that it calls make is longer than what came in: it says more and counts as full. Else prove '..UptoSaid'. A law counts once. -/
mutual
def uptoBulk {H : Type} : DataW H → Nat
  | .lit (.string bytes) => bytes.length + 1
  | .lit _ => 1
  | .nil => 1
  | .ptr d => uptoBulk d + 1
  | .slice elems spare => uptoBulkAll elems + uptoBulkAll spare + 1
  | .agg parts => uptoBulkAll parts + 1
  | .iface _ d => uptoBulk d + 1
  | .map entries => uptoBulkEntries entries + 1
  | .held _ => 1
def uptoBulkAll {H : Type} : List (DataW H) → Nat
  | [] => 0
  | d :: r => uptoBulk d + uptoBulkAll r
def uptoBulkEntries {H : Type} : List (Lit × DataW H) → Nat
  | [] => 0
  | x :: r => uptoBulkEntry x + uptoBulkEntries r
def uptoBulkEntry {H : Type} : Lit × DataW H → Nat
  | (.string bytes, d) => bytes.length + uptoBulk d + 1
  | (_, d) => uptoBulk d + 1
 end
def uptoSmall : (H : Type) → List (DataW H) → Bool := fun _ ds => decide (uptoBulkAll ds ≤ 1048576)
def OpenSpec.upto (s : _root_.Go.ChangeSpec) : _root_.Go.OpenSpec := { _root_.Go.OpenSpec.ofChange s with cond := some uptoSmall }

/-- 'laws.FnExactMachineKnows', WHERE WHAT IT READS IS OF BULK AT MOST 1048576: true; the input reads as it did. -/
def fnExactMachineKnowsUptoRow : OpenClaim := { program := "ytlpcmikljhoabaa", sum := "945723d6bd36352e06241c3b05380ef88013e8e5b5456b176ca58d984337cb03", func := "loop.example/medlar/laws.FnExactMachineKnows", spec := "fnExactMachineKnows", unfollowed := true, recurses := true, apart := false, narrowed := true }
def FnExactMachineKnowsUptoSaid : Prop := fnExactMachineKnowsUptoRow.holds Try.pinned (OpenSpec.upto fnExactMachineKnowsSpec)

/-- 'laws.FnExactMachineCount', WHERE WHAT IT READS IS OF BULK AT MOST 1048576: true; the input reads as it did. -/
def fnExactMachineCountUptoRow : OpenClaim := { program := "ytlpcmikljhoabaa", sum := "945723d6bd36352e06241c3b05380ef88013e8e5b5456b176ca58d984337cb03", func := "loop.example/medlar/laws.FnExactMachineCount", spec := "fnExactMachineCount", apart := false, narrowed := true }
def FnExactMachineCountUptoSaid : Prop := fnExactMachineCountUptoRow.holds Try.pinned (OpenSpec.upto fnExactMachineCountSpec)

/-- 'laws.FnExactMachineRank', WHERE WHAT IT READS IS OF BULK AT MOST 1048576: true; the input reads as it did. -/
def fnExactMachineRankUptoRow : OpenClaim := { program := "ytlpcmikljhoabaa", sum := "945723d6bd36352e06241c3b05380ef88013e8e5b5456b176ca58d984337cb03", func := "loop.example/medlar/laws.FnExactMachineRank", spec := "fnExactMachineRank", unfollowed := true, recurses := true, apart := false, narrowed := true }
def FnExactMachineRankUptoSaid : Prop := fnExactMachineRankUptoRow.holds Try.pinned (OpenSpec.upto fnExactMachineRankSpec)

/-- 'laws.FnExactMachineWord', WHERE WHAT IT READS IS OF BULK AT MOST 1048576: true; the input reads as it did. -/
def fnExactMachineWordUptoRow : OpenClaim := { program := "ytlpcmikljhoabaa", sum := "945723d6bd36352e06241c3b05380ef88013e8e5b5456b176ca58d984337cb03", func := "loop.example/medlar/laws.FnExactMachineWord", spec := "fnExactMachineWord", inPlace := ["internal/abi.NoEscape"], unfollowed := true, recurses := true, apart := false, narrowed := true }
def FnExactMachineWordUptoSaid : Prop := fnExactMachineWordUptoRow.holds Try.pinned (OpenSpec.upto fnExactMachineWordSpec)

/-- 'laws.FnExactMachineOk', WHERE WHAT IT READS IS OF BULK AT MOST 1048576: true; the input reads as it did. -/
def fnExactMachineOkUptoRow : OpenClaim := { program := "ytlpcmikljhoabaa", sum := "945723d6bd36352e06241c3b05380ef88013e8e5b5456b176ca58d984337cb03", func := "loop.example/medlar/laws.FnExactMachineOk", spec := "fnExactMachineOk", apart := false, narrowed := true }
def FnExactMachineOkUptoSaid : Prop := fnExactMachineOkUptoRow.holds Try.pinned (OpenSpec.upto fnExactMachineOkSpec)

end Rows
end Go.Proofs.Ytlpcmikljhoabaa
