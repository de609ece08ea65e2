/-
  No cell of these rows narrows 'for every input' (looked for: loops, veiled, ifaces, maps, wideKeys, modest, calm, conditions, laid).
  DERIVED. THE GIVEN ROWS OF THIS SEAT. 4 by the template 'for every input the law returns true; each argument reads behind the call as it read before'; 0 by the template 'total and deterministic' (their statements: YtabcceolejoklaaTotals.lean).
  GIVEN WITH THE SEED: the statements are not yours to turn. If you find one false, say at which input.
  Laid BY PROGRAM, IN A SANDBOX (cutbox-rows.mjs): the forced cells as the released guide's own fill.sh prints them over the translation 5d2d93cc6645121d… (all of the seat's roots in one cut). By AI agents, Wed Nov 11 2026. No macro, syntax, notation, axiom, sorry.
-/
import Derived.Test.YtabcceolejoklaaChecked
import GoSem.Claim
import GoSem.ClaimJoined
import GoSem.ClaimMapViews
import Derived.JoinedTies
import Derived.KernelRfl
namespace Go.Proofs.Ytabcceolejoklaa
/- THE CELL 'sum', in the pinned program and in every row, IS THE sha256 OF THE DUMP (.gsa) THAT YtabcceolejoklaaProg.lean LOADS. Nothing in Lean hashes anything: it is a label: what it is worth is what the hold of that sum in a sandbox is worth. -/
noncomputable def Try.pinned : Pinned := { name := "ytabcceolejoklaa", sum := "5d2d93cc6645121df5848ac8d28f515a7d13eda5599347b17989db4f258cca29", checked := Try.checked }
namespace Rows
def none {H : Type} : Left H := { results := [], args := [] }

/-- 'laws.FnExactForms': WHATEVER THE INPUT: true; the input reads as it did. -/
def fnExactFormsSpec : ChangeSpec := { name := "fnExactForms", fn := fun _ => fun
  | [d1, d2] => { results := [.lit (.bool true)], args := [d1, d2] }
  | _ => none }
def fnExactFormsRow : OpenClaim := { program := "ytabcceolejoklaa", sum := "5d2d93cc6645121df5848ac8d28f515a7d13eda5599347b17989db4f258cca29", func := "loop.example/medlar/laws.FnExactForms", spec := "fnExactForms", inPlace := ["internal/bytealg.IndexByteString", "internal/bytealg.IndexString"], unfollowed := true, recurses := true, named := ["internal/bytealg.MaxLen"], apart := false }
def FnExactFormsSaid : Prop := fnExactFormsRow.holds Try.pinned (OpenSpec.ofChange fnExactFormsSpec)

/-- ITS FALSE NEIGHBOUR: 'it returns false'. Refute it at one input. -/
def fnExactFormsWrong : ChangeSpec := { name := "fnExactForms", fn := fun _ => fun
  | [d1, d2] => { results := [.lit (.bool false)], args := [d1, d2] }
  | _ => none }
def FnExactFormsWrongFalsely : Prop := fnExactFormsRow.holds Try.pinned (OpenSpec.ofChange fnExactFormsWrong)

/-- 'laws.FnExactBookWords': WHATEVER THE INPUT: true; the input reads as it did. -/
def fnExactBookWordsSpec : ChangeSpec := { name := "fnExactBookWords", fn := fun _ => fun
  | [d] => { results := [.lit (.bool true)], args := [d] }
  | _ => none }
def fnExactBookWordsRow : OpenClaim := { program := "ytabcceolejoklaa", sum := "5d2d93cc6645121df5848ac8d28f515a7d13eda5599347b17989db4f258cca29", func := "loop.example/medlar/laws.FnExactBookWords", spec := "fnExactBookWords", inPlace := ["internal/bytealg.IndexByteString", "internal/bytealg.IndexString"], unfollowed := true, recurses := true, named := ["internal/bytealg.MaxLen"], apart := false }
def FnExactBookWordsSaid : Prop := fnExactBookWordsRow.holds Try.pinned (OpenSpec.ofChange fnExactBookWordsSpec)

/-- ITS FALSE NEIGHBOUR: 'it returns false'. Refute it at one input. -/
def fnExactBookWordsWrong : ChangeSpec := { name := "fnExactBookWords", fn := fun _ => fun
  | [d] => { results := [.lit (.bool false)], args := [d] }
  | _ => none }
def FnExactBookWordsWrongFalsely : Prop := fnExactBookWordsRow.holds Try.pinned (OpenSpec.ofChange fnExactBookWordsWrong)

/-- 'laws.FnExactBookKnows': WHATEVER THE INPUT: true; the input reads as it did. -/
def fnExactBookKnowsSpec : ChangeSpec := { name := "fnExactBookKnows", fn := fun _ => fun
  | [d1, d2] => { results := [.lit (.bool true)], args := [d1, d2] }
  | _ => none }
def fnExactBookKnowsRow : OpenClaim := { program := "ytabcceolejoklaa", sum := "5d2d93cc6645121df5848ac8d28f515a7d13eda5599347b17989db4f258cca29", func := "loop.example/medlar/laws.FnExactBookKnows", spec := "fnExactBookKnows", inPlace := ["internal/bytealg.IndexByteString", "internal/bytealg.IndexString"], unfollowed := true, recurses := true, named := ["internal/bytealg.MaxLen"], apart := false }
def FnExactBookKnowsSaid : Prop := fnExactBookKnowsRow.holds Try.pinned (OpenSpec.ofChange fnExactBookKnowsSpec)

/-- ITS FALSE NEIGHBOUR: 'it returns false'. Refute it at one input. -/
def fnExactBookKnowsWrong : ChangeSpec := { name := "fnExactBookKnows", fn := fun _ => fun
  | [d1, d2] => { results := [.lit (.bool false)], args := [d1, d2] }
  | _ => none }
def FnExactBookKnowsWrongFalsely : Prop := fnExactBookKnowsRow.holds Try.pinned (OpenSpec.ofChange fnExactBookKnowsWrong)

/-- 'laws.FnExactBookStems': WHATEVER THE INPUT: true; the input reads as it did. -/
def fnExactBookStemsSpec : ChangeSpec := { name := "fnExactBookStems", fn := fun _ => fun
  | [d1, d2] => { results := [.lit (.bool true)], args := [d1, d2] }
  | _ => none }
def fnExactBookStemsRow : OpenClaim := { program := "ytabcceolejoklaa", sum := "5d2d93cc6645121df5848ac8d28f515a7d13eda5599347b17989db4f258cca29", func := "loop.example/medlar/laws.FnExactBookStems", spec := "fnExactBookStems", inPlace := ["internal/bytealg.IndexByteString", "internal/bytealg.IndexString"], unfollowed := true, recurses := true, named := ["internal/bytealg.MaxLen"], apart := false }
def FnExactBookStemsSaid : Prop := fnExactBookStemsRow.holds Try.pinned (OpenSpec.ofChange fnExactBookStemsSpec)

/-- ITS FALSE NEIGHBOUR: 'it returns false'. Refute it at one input. -/
def fnExactBookStemsWrong : ChangeSpec := { name := "fnExactBookStems", fn := fun _ => fun
  | [d1, d2] => { results := [.lit (.bool false)], args := [d1, d2] }
  | _ => none }
def FnExactBookStemsWrongFalsely : Prop := fnExactBookStemsRow.holds Try.pinned (OpenSpec.ofChange fnExactBookStemsWrong)

/- THE SECOND FORM. 'bulk': how many values and letters a reading holds, each counted each time it is reached (what is shared counts as often as it is met; a slice's spare places count too). A statement '..UptoSaid' is the law's where the arguments, and the package variables that the reading takes, are together of bulk at most 1048576: NARROWER than '..Said'. Prove '..Said' where nothing that the law and all that it calls make is longer than what came in: it says more and counts as full. Else prove '..UptoSaid'. A law counts once. -/
mutual
def uptoBulk {H : Type} : DataW H → Nat
  | .lit (.string bytes) => bytes.length + 1
  | .lit _ => 1
  | .nil => 1
  | .ptr d => uptoBulk d + 1
  | .slice elems spare => uptoBulkAll elems + uptoBulkAll spare + 1
  | .agg parts => uptoBulkAll parts + 1
  | .iface _ d => uptoBulk d + 1
  | .map entries => uptoBulkEntries entries + 1
  | .held _ => 1
def uptoBulkAll {H : Type} : List (DataW H) → Nat
  | [] => 0
  | d :: r => uptoBulk d + uptoBulkAll r
def uptoBulkEntries {H : Type} : List (Lit × DataW H) → Nat
  | [] => 0
  | x :: r => uptoBulkEntry x + uptoBulkEntries r
def uptoBulkEntry {H : Type} : Lit × DataW H → Nat
  | (.string bytes, d) => bytes.length + uptoBulk d + 1
  | (_, d) => uptoBulk d + 1
 end
def uptoSmall : (H : Type) → List (DataW H) → Bool := fun _ ds => decide (uptoBulkAll ds ≤ 1048576)
def OpenSpec.upto (s : _root_.Go.ChangeSpec) : _root_.Go.OpenSpec := { _root_.Go.OpenSpec.ofChange s with cond := some uptoSmall }

/-- 'laws.FnExactForms', WHERE WHAT IT READS IS OF BULK AT MOST 1048576: true; the input reads as it did. -/
def fnExactFormsUptoRow : OpenClaim := { program := "ytabcceolejoklaa", sum := "5d2d93cc6645121df5848ac8d28f515a7d13eda5599347b17989db4f258cca29", func := "loop.example/medlar/laws.FnExactForms", spec := "fnExactForms", inPlace := ["internal/bytealg.IndexByteString", "internal/bytealg.IndexString"], unfollowed := true, recurses := true, named := ["internal/bytealg.MaxLen"], apart := false, narrowed := true }
def FnExactFormsUptoSaid : Prop := fnExactFormsUptoRow.holds Try.pinned (OpenSpec.upto fnExactFormsSpec)

/-- 'laws.FnExactBookWords', WHERE WHAT IT READS IS OF BULK AT MOST 1048576: true; the input reads as it did. -/
def fnExactBookWordsUptoRow : OpenClaim := { program := "ytabcceolejoklaa", sum := "5d2d93cc6645121df5848ac8d28f515a7d13eda5599347b17989db4f258cca29", func := "loop.example/medlar/laws.FnExactBookWords", spec := "fnExactBookWords", inPlace := ["internal/bytealg.IndexByteString", "internal/bytealg.IndexString"], unfollowed := true, recurses := true, named := ["internal/bytealg.MaxLen"], apart := false, narrowed := true }
def FnExactBookWordsUptoSaid : Prop := fnExactBookWordsUptoRow.holds Try.pinned (OpenSpec.upto fnExactBookWordsSpec)

/-- 'laws.FnExactBookKnows', WHERE WHAT IT READS IS OF BULK AT MOST 1048576: true; the input reads as it did. -/
def fnExactBookKnowsUptoRow : OpenClaim := { program := "ytabcceolejoklaa", sum := "5d2d93cc6645121df5848ac8d28f515a7d13eda5599347b17989db4f258cca29", func := "loop.example/medlar/laws.FnExactBookKnows", spec := "fnExactBookKnows", inPlace := ["internal/bytealg.IndexByteString", "internal/bytealg.IndexString"], unfollowed := true, recurses := true, named := ["internal/bytealg.MaxLen"], apart := false, narrowed := true }
def FnExactBookKnowsUptoSaid : Prop := fnExactBookKnowsUptoRow.holds Try.pinned (OpenSpec.upto fnExactBookKnowsSpec)

/-- 'laws.FnExactBookStems', WHERE WHAT IT READS IS OF BULK AT MOST 1048576: true; the input reads as it did. -/
def fnExactBookStemsUptoRow : OpenClaim := { program := "ytabcceolejoklaa", sum := "5d2d93cc6645121df5848ac8d28f515a7d13eda5599347b17989db4f258cca29", func := "loop.example/medlar/laws.FnExactBookStems", spec := "fnExactBookStems", inPlace := ["internal/bytealg.IndexByteString", "internal/bytealg.IndexString"], unfollowed := true, recurses := true, named := ["internal/bytealg.MaxLen"], apart := false, narrowed := true }
def FnExactBookStemsUptoSaid : Prop := fnExactBookStemsUptoRow.holds Try.pinned (OpenSpec.upto fnExactBookStemsSpec)

end Rows
end Go.Proofs.Ytabcceolejoklaa
