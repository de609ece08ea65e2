/-
  No cell of these rows narrows 'for every input' (looked for: loops, veiled, ifaces, maps, wideKeys, modest, calm, conditions, laid).
  DERIVED. THE GIVEN ROWS OF THIS SEAT. 5 by the template 'for every input the law returns true; each argument reads behind the call as it read before'; 0 by the template 'total and deterministic' (their statements: YtbkjbkdmanaohaaTotals.lean).
  GIVEN WITH THE SEED: the statements are not yours to turn. If you find one false, say at which input.
  Laid BY PROGRAM, IN A SANDBOX (cutbox-rows.mjs): the forced cells as the released guide's own fill.sh prints them over the translation 3e3baee5f6376494… (all of the seat's roots in one cut). By AI agents, Wed Nov 11 2026. No macro, syntax, notation, axiom, sorry.
-/
import Derived.Test.YtbkjbkdmanaohaaChecked
import GoSem.Claim
import GoSem.ClaimJoined
import GoSem.ClaimMapViews
import Derived.JoinedTies
import Derived.KernelRfl
namespace Go.Proofs.Ytbkjbkdmanaohaa
/- THE CELL 'sum', in the pinned program and in every row, IS THE sha256 OF THE DUMP (.gsa) THAT YtbkjbkdmanaohaaProg.lean LOADS. Nothing in Lean hashes anything: it is a label: what it is worth is what the hold of that sum in a sandbox is worth. -/
noncomputable def Try.pinned : Pinned := { name := "ytbkjbkdmanaohaa", sum := "3e3baee5f637649463a9280ac8353ad891c50a348d5b1be8c1bd4d9964863167", checked := Try.checked }
namespace Rows
def none {H : Type} : Left H := { results := [], args := [] }

/-- 'laws.FnExactMachineKnows': WHATEVER THE INPUT: true; the input reads as it did. -/
def fnExactMachineKnowsSpec : ChangeSpec := { name := "fnExactMachineKnows", fn := fun _ => fun
  | [d1, d2] => { results := [.lit (.bool true)], args := [d1, d2] }
  | _ => none }
def fnExactMachineKnowsRow : OpenClaim := { program := "ytbkjbkdmanaohaa", sum := "3e3baee5f637649463a9280ac8353ad891c50a348d5b1be8c1bd4d9964863167", func := "loop.example/medlar/laws.FnExactMachineKnows", spec := "fnExactMachineKnows", unfollowed := true, recurses := true, apart := false }
def FnExactMachineKnowsSaid : Prop := fnExactMachineKnowsRow.holds Try.pinned (OpenSpec.ofChange fnExactMachineKnowsSpec)

/-- ITS FALSE NEIGHBOUR: 'it returns false'. Refute it at one input. -/
def fnExactMachineKnowsWrong : ChangeSpec := { name := "fnExactMachineKnows", fn := fun _ => fun
  | [d1, d2] => { results := [.lit (.bool false)], args := [d1, d2] }
  | _ => none }
def FnExactMachineKnowsWrongFalsely : Prop := fnExactMachineKnowsRow.holds Try.pinned (OpenSpec.ofChange fnExactMachineKnowsWrong)

/-- 'laws.FnExactMachineGuesses': WHATEVER THE INPUT: true; the input reads as it did. -/
def fnExactMachineGuessesSpec : ChangeSpec := { name := "fnExactMachineGuesses", fn := fun _ => fun
  | [d1, d2] => { results := [.lit (.bool true)], args := [d1, d2] }
  | _ => none }
def fnExactMachineGuessesRow : OpenClaim := { program := "ytbkjbkdmanaohaa", sum := "3e3baee5f637649463a9280ac8353ad891c50a348d5b1be8c1bd4d9964863167", func := "loop.example/medlar/laws.FnExactMachineGuesses", spec := "fnExactMachineGuesses", unfollowed := true, recurses := true, apart := false }
def FnExactMachineGuessesSaid : Prop := fnExactMachineGuessesRow.holds Try.pinned (OpenSpec.ofChange fnExactMachineGuessesSpec)

/-- ITS FALSE NEIGHBOUR: 'it returns false'. Refute it at one input. -/
def fnExactMachineGuessesWrong : ChangeSpec := { name := "fnExactMachineGuesses", fn := fun _ => fun
  | [d1, d2] => { results := [.lit (.bool false)], args := [d1, d2] }
  | _ => none }
def FnExactMachineGuessesWrongFalsely : Prop := fnExactMachineGuessesRow.holds Try.pinned (OpenSpec.ofChange fnExactMachineGuessesWrong)

/-- 'laws.FnExactMachineAll': WHATEVER THE INPUT: true; the input reads as it did. -/
def fnExactMachineAllSpec : ChangeSpec := { name := "fnExactMachineAll", fn := fun _ => fun
  | [d1, d2] => { results := [.lit (.bool true)], args := [d1, d2] }
  | _ => none }
def fnExactMachineAllRow : OpenClaim := { program := "ytbkjbkdmanaohaa", sum := "3e3baee5f637649463a9280ac8353ad891c50a348d5b1be8c1bd4d9964863167", func := "loop.example/medlar/laws.FnExactMachineAll", spec := "fnExactMachineAll", recurses := true, apart := false }
def FnExactMachineAllSaid : Prop := fnExactMachineAllRow.holds Try.pinned (OpenSpec.ofChange fnExactMachineAllSpec)

/-- ITS FALSE NEIGHBOUR: 'it returns false'. Refute it at one input. -/
def fnExactMachineAllWrong : ChangeSpec := { name := "fnExactMachineAll", fn := fun _ => fun
  | [d1, d2] => { results := [.lit (.bool false)], args := [d1, d2] }
  | _ => none }
def FnExactMachineAllWrongFalsely : Prop := fnExactMachineAllRow.holds Try.pinned (OpenSpec.ofChange fnExactMachineAllWrong)

/-- 'laws.FnExactMachineBegins': WHATEVER THE INPUT: true; the input reads as it did. -/
def fnExactMachineBeginsSpec : ChangeSpec := { name := "fnExactMachineBegins", fn := fun _ => fun
  | [d1, d2, d3] => { results := [.lit (.bool true)], args := [d1, d2, d3] }
  | _ => none }
def fnExactMachineBeginsRow : OpenClaim := { program := "ytbkjbkdmanaohaa", sum := "3e3baee5f637649463a9280ac8353ad891c50a348d5b1be8c1bd4d9964863167", func := "loop.example/medlar/laws.FnExactMachineBegins", spec := "fnExactMachineBegins", unfollowed := true, recurses := true, apart := false }
def FnExactMachineBeginsSaid : Prop := fnExactMachineBeginsRow.holds Try.pinned (OpenSpec.ofChange fnExactMachineBeginsSpec)

/-- ITS FALSE NEIGHBOUR: 'it returns false'. Refute it at one input. -/
def fnExactMachineBeginsWrong : ChangeSpec := { name := "fnExactMachineBegins", fn := fun _ => fun
  | [d1, d2, d3] => { results := [.lit (.bool false)], args := [d1, d2, d3] }
  | _ => none }
def FnExactMachineBeginsWrongFalsely : Prop := fnExactMachineBeginsRow.holds Try.pinned (OpenSpec.ofChange fnExactMachineBeginsWrong)

/-- 'laws.FnExactMachinePut': WHATEVER THE INPUT: true; the input reads as it did. -/
def fnExactMachinePutSpec : ChangeSpec := { name := "fnExactMachinePut", fn := fun _ => fun
  | [d] => { results := [.lit (.bool true)], args := [d] }
  | _ => none }
def fnExactMachinePutRow : OpenClaim := { program := "ytbkjbkdmanaohaa", sum := "3e3baee5f637649463a9280ac8353ad891c50a348d5b1be8c1bd4d9964863167", func := "loop.example/medlar/laws.FnExactMachinePut", spec := "fnExactMachinePut", inPlace := ["internal/abi.NoEscape"], apart := false }
def FnExactMachinePutSaid : Prop := fnExactMachinePutRow.holds Try.pinned (OpenSpec.ofChange fnExactMachinePutSpec)

/-- ITS FALSE NEIGHBOUR: 'it returns false'. Refute it at one input. -/
def fnExactMachinePutWrong : ChangeSpec := { name := "fnExactMachinePut", fn := fun _ => fun
  | [d] => { results := [.lit (.bool false)], args := [d] }
  | _ => none }
def FnExactMachinePutWrongFalsely : Prop := fnExactMachinePutRow.holds Try.pinned (OpenSpec.ofChange fnExactMachinePutWrong)

/- THE SECOND FORM. 'bulk': how many values and letters a reading holds, each counted each time it is reached (what is shared counts as often as it is met; a slice's spare places count too). A statement '..UptoSaid' is the law's where the arguments, and the package variables that the reading takes, are together of bulk at most 1048576: NARROWER than '..Said'. Prove '..Said' where nothing that the law and all that it calls make is longer than what came in: it says more and counts as full. Else prove '..UptoSaid'. A law counts once. -/
mutual
def uptoBulk {H : Type} : DataW H → Nat
  | .lit (.string bytes) => bytes.length + 1
  | .lit _ => 1
  | .nil => 1
  | .ptr d => uptoBulk d + 1
  | .slice elems spare => uptoBulkAll elems + uptoBulkAll spare + 1
  | .agg parts => uptoBulkAll parts + 1
  | .iface _ d => uptoBulk d + 1
  | .map entries => uptoBulkEntries entries + 1
  | .held _ => 1
def uptoBulkAll {H : Type} : List (DataW H) → Nat
  | [] => 0
  | d :: r => uptoBulk d + uptoBulkAll r
def uptoBulkEntries {H : Type} : List (Lit × DataW H) → Nat
  | [] => 0
  | x :: r => uptoBulkEntry x + uptoBulkEntries r
def uptoBulkEntry {H : Type} : Lit × DataW H → Nat
  | (.string bytes, d) => bytes.length + uptoBulk d + 1
  | (_, d) => uptoBulk d + 1
 end
def uptoSmall : (H : Type) → List (DataW H) → Bool := fun _ ds => decide (uptoBulkAll ds ≤ 1048576)
def OpenSpec.upto (s : _root_.Go.ChangeSpec) : _root_.Go.OpenSpec := { _root_.Go.OpenSpec.ofChange s with cond := some uptoSmall }

/-- 'laws.FnExactMachineKnows', WHERE WHAT IT READS IS OF BULK AT MOST 1048576: true; the input reads as it did. -/
def fnExactMachineKnowsUptoRow : OpenClaim := { program := "ytbkjbkdmanaohaa", sum := "3e3baee5f637649463a9280ac8353ad891c50a348d5b1be8c1bd4d9964863167", func := "loop.example/medlar/laws.FnExactMachineKnows", spec := "fnExactMachineKnows", unfollowed := true, recurses := true, apart := false, narrowed := true }
def FnExactMachineKnowsUptoSaid : Prop := fnExactMachineKnowsUptoRow.holds Try.pinned (OpenSpec.upto fnExactMachineKnowsSpec)

/-- 'laws.FnExactMachineGuesses', WHERE WHAT IT READS IS OF BULK AT MOST 1048576: true; the input reads as it did. -/
def fnExactMachineGuessesUptoRow : OpenClaim := { program := "ytbkjbkdmanaohaa", sum := "3e3baee5f637649463a9280ac8353ad891c50a348d5b1be8c1bd4d9964863167", func := "loop.example/medlar/laws.FnExactMachineGuesses", spec := "fnExactMachineGuesses", unfollowed := true, recurses := true, apart := false, narrowed := true }
def FnExactMachineGuessesUptoSaid : Prop := fnExactMachineGuessesUptoRow.holds Try.pinned (OpenSpec.upto fnExactMachineGuessesSpec)

/-- 'laws.FnExactMachineAll', WHERE WHAT IT READS IS OF BULK AT MOST 1048576: true; the input reads as it did. -/
def fnExactMachineAllUptoRow : OpenClaim := { program := "ytbkjbkdmanaohaa", sum := "3e3baee5f637649463a9280ac8353ad891c50a348d5b1be8c1bd4d9964863167", func := "loop.example/medlar/laws.FnExactMachineAll", spec := "fnExactMachineAll", recurses := true, apart := false, narrowed := true }
def FnExactMachineAllUptoSaid : Prop := fnExactMachineAllUptoRow.holds Try.pinned (OpenSpec.upto fnExactMachineAllSpec)

/-- 'laws.FnExactMachineBegins', WHERE WHAT IT READS IS OF BULK AT MOST 1048576: true; the input reads as it did. -/
def fnExactMachineBeginsUptoRow : OpenClaim := { program := "ytbkjbkdmanaohaa", sum := "3e3baee5f637649463a9280ac8353ad891c50a348d5b1be8c1bd4d9964863167", func := "loop.example/medlar/laws.FnExactMachineBegins", spec := "fnExactMachineBegins", unfollowed := true, recurses := true, apart := false, narrowed := true }
def FnExactMachineBeginsUptoSaid : Prop := fnExactMachineBeginsUptoRow.holds Try.pinned (OpenSpec.upto fnExactMachineBeginsSpec)

/-- 'laws.FnExactMachinePut', WHERE WHAT IT READS IS OF BULK AT MOST 1048576: true; the input reads as it did. -/
def fnExactMachinePutUptoRow : OpenClaim := { program := "ytbkjbkdmanaohaa", sum := "3e3baee5f637649463a9280ac8353ad891c50a348d5b1be8c1bd4d9964863167", func := "loop.example/medlar/laws.FnExactMachinePut", spec := "fnExactMachinePut", inPlace := ["internal/abi.NoEscape"], apart := false, narrowed := true }
def FnExactMachinePutUptoSaid : Prop := fnExactMachinePutUptoRow.holds Try.pinned (OpenSpec.upto fnExactMachinePutSpec)

end Rows
end Go.Proofs.Ytbkjbkdmanaohaa
