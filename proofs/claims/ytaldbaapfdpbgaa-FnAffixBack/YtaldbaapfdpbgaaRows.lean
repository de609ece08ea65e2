/-
  No cell of these rows narrows 'for every input' (looked for: loops, veiled, ifaces, maps, wideKeys, modest, calm, conditions, laid).
  DERIVED. THE GIVEN ROWS OF THIS SEAT. 13 by the template 'for every input the law returns true; each argument reads behind the call as it read before'; 0 by the template 'total and deterministic' (their statements: YtaldbaapfdpbgaaTotals.lean).
  GIVEN WITH THE SEED: the statements are not yours to turn. If you find one false, say at which input.
  Laid BY PROGRAM, IN A SANDBOX (cutbox-rows.mjs): the forced cells as the released guide's own fill.sh prints them over the translation af7324b062941fa1… (all of the seat's roots in one cut). By AI agents, Wed Nov 11 2026. No macro, syntax, notation, axiom, sorry.
-/
import Derived.Test.YtaldbaapfdpbgaaChecked
import GoSem.Claim
import GoSem.ClaimJoined
import GoSem.ClaimMapViews
import Derived.JoinedTies
import Derived.KernelRfl
namespace Go.Proofs.Ytaldbaapfdpbgaa
/- THE CELL 'sum', in the pinned program and in every row, IS THE sha256 OF THE DUMP (.gsa) THAT YtaldbaapfdpbgaaProg.lean LOADS. Nothing in Lean hashes anything: it is a label: what it is worth is what the hold of that sum in a sandbox is worth. -/
noncomputable def Try.pinned : Pinned := { name := "ytaldbaapfdpbgaa", sum := "af7324b062941fa164c84d3eb958223a2ccb5900be6dd80650c5b8e98f545358", checked := Try.checked }
namespace Rows
def none {H : Type} : Left H := { results := [], args := [] }

/-- 'laws.FnWordOk': WHATEVER THE INPUT: true; the input reads as it did. -/
def fnWordOkSpec : ChangeSpec := { name := "fnWordOk", fn := fun _ => fun
  | [d] => { results := [.lit (.bool true)], args := [d] }
  | _ => none }
def fnWordOkRow : OpenClaim := { program := "ytaldbaapfdpbgaa", sum := "af7324b062941fa164c84d3eb958223a2ccb5900be6dd80650c5b8e98f545358", func := "loop.example/medlar/laws.FnWordOk", spec := "fnWordOk", apart := false }
def FnWordOkSaid : Prop := fnWordOkRow.holds Try.pinned (OpenSpec.ofChange fnWordOkSpec)

/-- ITS FALSE NEIGHBOUR: 'it returns false'. Refute it at one input. -/
def fnWordOkWrong : ChangeSpec := { name := "fnWordOk", fn := fun _ => fun
  | [d] => { results := [.lit (.bool false)], args := [d] }
  | _ => none }
def FnWordOkWrongFalsely : Prop := fnWordOkRow.holds Try.pinned (OpenSpec.ofChange fnWordOkWrong)

/-- 'laws.FnFar': WHATEVER THE INPUT: true; the input reads as it did. -/
def fnFarSpec : ChangeSpec := { name := "fnFar", fn := fun _ => fun
  | [d] => { results := [.lit (.bool true)], args := [d] }
  | _ => none }
def fnFarRow : OpenClaim := { program := "ytaldbaapfdpbgaa", sum := "af7324b062941fa164c84d3eb958223a2ccb5900be6dd80650c5b8e98f545358", func := "loop.example/medlar/laws.FnFar", spec := "fnFar", apart := false }
def FnFarSaid : Prop := fnFarRow.holds Try.pinned (OpenSpec.ofChange fnFarSpec)

/-- ITS FALSE NEIGHBOUR: 'it returns false'. Refute it at one input. -/
def fnFarWrong : ChangeSpec := { name := "fnFar", fn := fun _ => fun
  | [d] => { results := [.lit (.bool false)], args := [d] }
  | _ => none }
def FnFarWrongFalsely : Prop := fnFarRow.holds Try.pinned (OpenSpec.ofChange fnFarWrong)

/-- 'laws.FnNear': WHATEVER THE INPUT: true; the input reads as it did. -/
def fnNearSpec : ChangeSpec := { name := "fnNear", fn := fun _ => fun
  | [d] => { results := [.lit (.bool true)], args := [d] }
  | _ => none }
def fnNearRow : OpenClaim := { program := "ytaldbaapfdpbgaa", sum := "af7324b062941fa164c84d3eb958223a2ccb5900be6dd80650c5b8e98f545358", func := "loop.example/medlar/laws.FnNear", spec := "fnNear", unfollowed := true, recurses := true, apart := false }
def FnNearSaid : Prop := fnNearRow.holds Try.pinned (OpenSpec.ofChange fnNearSpec)

/-- ITS FALSE NEIGHBOUR: 'it returns false'. Refute it at one input. -/
def fnNearWrong : ChangeSpec := { name := "fnNear", fn := fun _ => fun
  | [d] => { results := [.lit (.bool false)], args := [d] }
  | _ => none }
def FnNearWrongFalsely : Prop := fnNearRow.holds Try.pinned (OpenSpec.ofChange fnNearWrong)

/-- 'laws.FnBeginning': WHATEVER THE INPUT: true; the input reads as it did. -/
def fnBeginningSpec : ChangeSpec := { name := "fnBeginning", fn := fun _ => fun
  | [d] => { results := [.lit (.bool true)], args := [d] }
  | _ => none }
def fnBeginningRow : OpenClaim := { program := "ytaldbaapfdpbgaa", sum := "af7324b062941fa164c84d3eb958223a2ccb5900be6dd80650c5b8e98f545358", func := "loop.example/medlar/laws.FnBeginning", spec := "fnBeginning", apart := false }
def FnBeginningSaid : Prop := fnBeginningRow.holds Try.pinned (OpenSpec.ofChange fnBeginningSpec)

/-- ITS FALSE NEIGHBOUR: 'it returns false'. Refute it at one input. -/
def fnBeginningWrong : ChangeSpec := { name := "fnBeginning", fn := fun _ => fun
  | [d] => { results := [.lit (.bool false)], args := [d] }
  | _ => none }
def FnBeginningWrongFalsely : Prop := fnBeginningRow.holds Try.pinned (OpenSpec.ofChange fnBeginningWrong)

/-- 'laws.FnWithin': WHATEVER THE INPUT: true; the input reads as it did. -/
def fnWithinSpec : ChangeSpec := { name := "fnWithin", fn := fun _ => fun
  | [d] => { results := [.lit (.bool true)], args := [d] }
  | _ => none }
def fnWithinRow : OpenClaim := { program := "ytaldbaapfdpbgaa", sum := "af7324b062941fa164c84d3eb958223a2ccb5900be6dd80650c5b8e98f545358", func := "loop.example/medlar/laws.FnWithin", spec := "fnWithin", apart := false }
def FnWithinSaid : Prop := fnWithinRow.holds Try.pinned (OpenSpec.ofChange fnWithinSpec)

/-- ITS FALSE NEIGHBOUR: 'it returns false'. Refute it at one input. -/
def fnWithinWrong : ChangeSpec := { name := "fnWithin", fn := fun _ => fun
  | [d] => { results := [.lit (.bool false)], args := [d] }
  | _ => none }
def FnWithinWrongFalsely : Prop := fnWithinRow.holds Try.pinned (OpenSpec.ofChange fnWithinWrong)

/-- 'laws.FnAffixDo': WHATEVER THE INPUT: true; the input reads as it did. -/
def fnAffixDoSpec : ChangeSpec := { name := "fnAffixDo", fn := fun _ => fun
  | [d] => { results := [.lit (.bool true)], args := [d] }
  | _ => none }
def fnAffixDoRow : OpenClaim := { program := "ytaldbaapfdpbgaa", sum := "af7324b062941fa164c84d3eb958223a2ccb5900be6dd80650c5b8e98f545358", func := "loop.example/medlar/laws.FnAffixDo", spec := "fnAffixDo", unfollowed := true, recurses := true, apart := false }
def FnAffixDoSaid : Prop := fnAffixDoRow.holds Try.pinned (OpenSpec.ofChange fnAffixDoSpec)

/-- ITS FALSE NEIGHBOUR: 'it returns false'. Refute it at one input. -/
def fnAffixDoWrong : ChangeSpec := { name := "fnAffixDo", fn := fun _ => fun
  | [d] => { results := [.lit (.bool false)], args := [d] }
  | _ => none }
def FnAffixDoWrongFalsely : Prop := fnAffixDoRow.holds Try.pinned (OpenSpec.ofChange fnAffixDoWrong)

/-- 'laws.FnAffixBack': WHATEVER THE INPUT: true; the input reads as it did. -/
def fnAffixBackSpec : ChangeSpec := { name := "fnAffixBack", fn := fun _ => fun
  | [d] => { results := [.lit (.bool true)], args := [d] }
  | _ => none }
def fnAffixBackRow : OpenClaim := { program := "ytaldbaapfdpbgaa", sum := "af7324b062941fa164c84d3eb958223a2ccb5900be6dd80650c5b8e98f545358", func := "loop.example/medlar/laws.FnAffixBack", spec := "fnAffixBack", unfollowed := true, recurses := true, apart := false }
def FnAffixBackSaid : Prop := fnAffixBackRow.holds Try.pinned (OpenSpec.ofChange fnAffixBackSpec)

/-- ITS FALSE NEIGHBOUR: 'it returns false'. Refute it at one input. -/
def fnAffixBackWrong : ChangeSpec := { name := "fnAffixBack", fn := fun _ => fun
  | [d] => { results := [.lit (.bool false)], args := [d] }
  | _ => none }
def FnAffixBackWrongFalsely : Prop := fnAffixBackRow.holds Try.pinned (OpenSpec.ofChange fnAffixBackWrong)

/-- 'laws.FnForms': WHATEVER THE INPUT: true; the input reads as it did. -/
def fnFormsSpec : ChangeSpec := { name := "fnForms", fn := fun _ => fun
  | [d] => { results := [.lit (.bool true)], args := [d] }
  | _ => none }
def fnFormsRow : OpenClaim := { program := "ytaldbaapfdpbgaa", sum := "af7324b062941fa164c84d3eb958223a2ccb5900be6dd80650c5b8e98f545358", func := "loop.example/medlar/laws.FnForms", spec := "fnForms", inPlace := ["internal/bytealg.IndexByteString", "internal/bytealg.IndexString"], unfollowed := true, recurses := true, named := ["internal/bytealg.MaxLen"], apart := false }
def FnFormsSaid : Prop := fnFormsRow.holds Try.pinned (OpenSpec.ofChange fnFormsSpec)

/-- ITS FALSE NEIGHBOUR: 'it returns false'. Refute it at one input. -/
def fnFormsWrong : ChangeSpec := { name := "fnForms", fn := fun _ => fun
  | [d] => { results := [.lit (.bool false)], args := [d] }
  | _ => none }
def FnFormsWrongFalsely : Prop := fnFormsRow.holds Try.pinned (OpenSpec.ofChange fnFormsWrong)

/-- 'laws.FnBookWords': WHATEVER THE INPUT: true; the input reads as it did. -/
def fnBookWordsSpec : ChangeSpec := { name := "fnBookWords", fn := fun _ => fun
  | [d] => { results := [.lit (.bool true)], args := [d] }
  | _ => none }
def fnBookWordsRow : OpenClaim := { program := "ytaldbaapfdpbgaa", sum := "af7324b062941fa164c84d3eb958223a2ccb5900be6dd80650c5b8e98f545358", func := "loop.example/medlar/laws.FnBookWords", spec := "fnBookWords", inPlace := ["internal/bytealg.IndexByteString", "internal/bytealg.IndexString"], unfollowed := true, recurses := true, named := ["internal/bytealg.MaxLen"], apart := false }
def FnBookWordsSaid : Prop := fnBookWordsRow.holds Try.pinned (OpenSpec.ofChange fnBookWordsSpec)

/-- ITS FALSE NEIGHBOUR: 'it returns false'. Refute it at one input. -/
def fnBookWordsWrong : ChangeSpec := { name := "fnBookWords", fn := fun _ => fun
  | [d] => { results := [.lit (.bool false)], args := [d] }
  | _ => none }
def FnBookWordsWrongFalsely : Prop := fnBookWordsRow.holds Try.pinned (OpenSpec.ofChange fnBookWordsWrong)

/-- 'laws.FnBookKnows': WHATEVER THE INPUT: true; the input reads as it did. -/
def fnBookKnowsSpec : ChangeSpec := { name := "fnBookKnows", fn := fun _ => fun
  | [d] => { results := [.lit (.bool true)], args := [d] }
  | _ => none }
def fnBookKnowsRow : OpenClaim := { program := "ytaldbaapfdpbgaa", sum := "af7324b062941fa164c84d3eb958223a2ccb5900be6dd80650c5b8e98f545358", func := "loop.example/medlar/laws.FnBookKnows", spec := "fnBookKnows", inPlace := ["internal/bytealg.IndexByteString", "internal/bytealg.IndexString"], unfollowed := true, recurses := true, named := ["internal/bytealg.MaxLen"], apart := false }
def FnBookKnowsSaid : Prop := fnBookKnowsRow.holds Try.pinned (OpenSpec.ofChange fnBookKnowsSpec)

/-- ITS FALSE NEIGHBOUR: 'it returns false'. Refute it at one input. -/
def fnBookKnowsWrong : ChangeSpec := { name := "fnBookKnows", fn := fun _ => fun
  | [d] => { results := [.lit (.bool false)], args := [d] }
  | _ => none }
def FnBookKnowsWrongFalsely : Prop := fnBookKnowsRow.holds Try.pinned (OpenSpec.ofChange fnBookKnowsWrong)

/-- 'laws.FnBookStems': WHATEVER THE INPUT: true; the input reads as it did. -/
def fnBookStemsSpec : ChangeSpec := { name := "fnBookStems", fn := fun _ => fun
  | [d] => { results := [.lit (.bool true)], args := [d] }
  | _ => none }
def fnBookStemsRow : OpenClaim := { program := "ytaldbaapfdpbgaa", sum := "af7324b062941fa164c84d3eb958223a2ccb5900be6dd80650c5b8e98f545358", func := "loop.example/medlar/laws.FnBookStems", spec := "fnBookStems", inPlace := ["internal/bytealg.IndexByteString", "internal/bytealg.IndexString"], unfollowed := true, recurses := true, named := ["internal/bytealg.MaxLen"], apart := false }
def FnBookStemsSaid : Prop := fnBookStemsRow.holds Try.pinned (OpenSpec.ofChange fnBookStemsSpec)

/-- ITS FALSE NEIGHBOUR: 'it returns false'. Refute it at one input. -/
def fnBookStemsWrong : ChangeSpec := { name := "fnBookStems", fn := fun _ => fun
  | [d] => { results := [.lit (.bool false)], args := [d] }
  | _ => none }
def FnBookStemsWrongFalsely : Prop := fnBookStemsRow.holds Try.pinned (OpenSpec.ofChange fnBookStemsWrong)

/-- 'laws.FnNearBoth': WHATEVER THE INPUT: true; the input reads as it did. -/
def fnNearBothSpec : ChangeSpec := { name := "fnNearBoth", fn := fun _ => fun
  | [d] => { results := [.lit (.bool true)], args := [d] }
  | _ => none }
def fnNearBothRow : OpenClaim := { program := "ytaldbaapfdpbgaa", sum := "af7324b062941fa164c84d3eb958223a2ccb5900be6dd80650c5b8e98f545358", func := "loop.example/medlar/laws.FnNearBoth", spec := "fnNearBoth", unfollowed := true, recurses := true, apart := false }
def FnNearBothSaid : Prop := fnNearBothRow.holds Try.pinned (OpenSpec.ofChange fnNearBothSpec)

/-- ITS FALSE NEIGHBOUR: 'it returns false'. Refute it at one input. -/
def fnNearBothWrong : ChangeSpec := { name := "fnNearBoth", fn := fun _ => fun
  | [d] => { results := [.lit (.bool false)], args := [d] }
  | _ => none }
def FnNearBothWrongFalsely : Prop := fnNearBothRow.holds Try.pinned (OpenSpec.ofChange fnNearBothWrong)

/-- 'laws.FnBookMore': WHATEVER THE INPUT: true; the input reads as it did. -/
def fnBookMoreSpec : ChangeSpec := { name := "fnBookMore", fn := fun _ => fun
  | [d1, d2] => { results := [.lit (.bool true)], args := [d1, d2] }
  | _ => none }
def fnBookMoreRow : OpenClaim := { program := "ytaldbaapfdpbgaa", sum := "af7324b062941fa164c84d3eb958223a2ccb5900be6dd80650c5b8e98f545358", func := "loop.example/medlar/laws.FnBookMore", spec := "fnBookMore", inPlace := ["internal/bytealg.IndexByteString", "internal/bytealg.IndexString"], unfollowed := true, recurses := true, named := ["internal/bytealg.MaxLen"], apart := false }
def FnBookMoreSaid : Prop := fnBookMoreRow.holds Try.pinned (OpenSpec.ofChange fnBookMoreSpec)

/-- ITS FALSE NEIGHBOUR: 'it returns false'. Refute it at one input. -/
def fnBookMoreWrong : ChangeSpec := { name := "fnBookMore", fn := fun _ => fun
  | [d1, d2] => { results := [.lit (.bool false)], args := [d1, d2] }
  | _ => none }
def FnBookMoreWrongFalsely : Prop := fnBookMoreRow.holds Try.pinned (OpenSpec.ofChange fnBookMoreWrong)

/- THE SECOND FORM. 'bulk': how many values and letters a reading holds, each counted each time it is reached (what is shared counts as often as it is met; a slice's spare places count too). A statement '..UptoSaid' is the law's where the arguments, and the package variables that the reading takes, are together of bulk at most 1048576: NARROWER than '..Said'. Prove '..Said' where nothing that the law and all that it calls make is longer than what came in: it says more and counts as full. Else prove '..UptoSaid'. A law counts once. -/
mutual
def uptoBulk {H : Type} : DataW H → Nat
  | .lit (.string bytes) => bytes.length + 1
  | .lit _ => 1
  | .nil => 1
  | .ptr d => uptoBulk d + 1
  | .slice elems spare => uptoBulkAll elems + uptoBulkAll spare + 1
  | .agg parts => uptoBulkAll parts + 1
  | .iface _ d => uptoBulk d + 1
  | .map entries => uptoBulkEntries entries + 1
  | .held _ => 1
def uptoBulkAll {H : Type} : List (DataW H) → Nat
  | [] => 0
  | d :: r => uptoBulk d + uptoBulkAll r
def uptoBulkEntries {H : Type} : List (Lit × DataW H) → Nat
  | [] => 0
  | x :: r => uptoBulkEntry x + uptoBulkEntries r
def uptoBulkEntry {H : Type} : Lit × DataW H → Nat
  | (.string bytes, d) => bytes.length + uptoBulk d + 1
  | (_, d) => uptoBulk d + 1
 end
def uptoSmall : (H : Type) → List (DataW H) → Bool := fun _ ds => decide (uptoBulkAll ds ≤ 1048576)
def OpenSpec.upto (s : _root_.Go.ChangeSpec) : _root_.Go.OpenSpec := { _root_.Go.OpenSpec.ofChange s with cond := some uptoSmall }

/-- 'laws.FnWordOk', WHERE WHAT IT READS IS OF BULK AT MOST 1048576: true; the input reads as it did. -/
def fnWordOkUptoRow : OpenClaim := { program := "ytaldbaapfdpbgaa", sum := "af7324b062941fa164c84d3eb958223a2ccb5900be6dd80650c5b8e98f545358", func := "loop.example/medlar/laws.FnWordOk", spec := "fnWordOk", apart := false, narrowed := true }
def FnWordOkUptoSaid : Prop := fnWordOkUptoRow.holds Try.pinned (OpenSpec.upto fnWordOkSpec)

/-- 'laws.FnFar', WHERE WHAT IT READS IS OF BULK AT MOST 1048576: true; the input reads as it did. -/
def fnFarUptoRow : OpenClaim := { program := "ytaldbaapfdpbgaa", sum := "af7324b062941fa164c84d3eb958223a2ccb5900be6dd80650c5b8e98f545358", func := "loop.example/medlar/laws.FnFar", spec := "fnFar", apart := false, narrowed := true }
def FnFarUptoSaid : Prop := fnFarUptoRow.holds Try.pinned (OpenSpec.upto fnFarSpec)

/-- 'laws.FnNear', WHERE WHAT IT READS IS OF BULK AT MOST 1048576: true; the input reads as it did. -/
def fnNearUptoRow : OpenClaim := { program := "ytaldbaapfdpbgaa", sum := "af7324b062941fa164c84d3eb958223a2ccb5900be6dd80650c5b8e98f545358", func := "loop.example/medlar/laws.FnNear", spec := "fnNear", unfollowed := true, recurses := true, apart := false, narrowed := true }
def FnNearUptoSaid : Prop := fnNearUptoRow.holds Try.pinned (OpenSpec.upto fnNearSpec)

/-- 'laws.FnBeginning', WHERE WHAT IT READS IS OF BULK AT MOST 1048576: true; the input reads as it did. -/
def fnBeginningUptoRow : OpenClaim := { program := "ytaldbaapfdpbgaa", sum := "af7324b062941fa164c84d3eb958223a2ccb5900be6dd80650c5b8e98f545358", func := "loop.example/medlar/laws.FnBeginning", spec := "fnBeginning", apart := false, narrowed := true }
def FnBeginningUptoSaid : Prop := fnBeginningUptoRow.holds Try.pinned (OpenSpec.upto fnBeginningSpec)

/-- 'laws.FnWithin', WHERE WHAT IT READS IS OF BULK AT MOST 1048576: true; the input reads as it did. -/
def fnWithinUptoRow : OpenClaim := { program := "ytaldbaapfdpbgaa", sum := "af7324b062941fa164c84d3eb958223a2ccb5900be6dd80650c5b8e98f545358", func := "loop.example/medlar/laws.FnWithin", spec := "fnWithin", apart := false, narrowed := true }
def FnWithinUptoSaid : Prop := fnWithinUptoRow.holds Try.pinned (OpenSpec.upto fnWithinSpec)

/-- 'laws.FnAffixDo', WHERE WHAT IT READS IS OF BULK AT MOST 1048576: true; the input reads as it did. -/
def fnAffixDoUptoRow : OpenClaim := { program := "ytaldbaapfdpbgaa", sum := "af7324b062941fa164c84d3eb958223a2ccb5900be6dd80650c5b8e98f545358", func := "loop.example/medlar/laws.FnAffixDo", spec := "fnAffixDo", unfollowed := true, recurses := true, apart := false, narrowed := true }
def FnAffixDoUptoSaid : Prop := fnAffixDoUptoRow.holds Try.pinned (OpenSpec.upto fnAffixDoSpec)

/-- 'laws.FnAffixBack', WHERE WHAT IT READS IS OF BULK AT MOST 1048576: true; the input reads as it did. -/
def fnAffixBackUptoRow : OpenClaim := { program := "ytaldbaapfdpbgaa", sum := "af7324b062941fa164c84d3eb958223a2ccb5900be6dd80650c5b8e98f545358", func := "loop.example/medlar/laws.FnAffixBack", spec := "fnAffixBack", unfollowed := true, recurses := true, apart := false, narrowed := true }
def FnAffixBackUptoSaid : Prop := fnAffixBackUptoRow.holds Try.pinned (OpenSpec.upto fnAffixBackSpec)

/-- 'laws.FnForms', WHERE WHAT IT READS IS OF BULK AT MOST 1048576: true; the input reads as it did. -/
def fnFormsUptoRow : OpenClaim := { program := "ytaldbaapfdpbgaa", sum := "af7324b062941fa164c84d3eb958223a2ccb5900be6dd80650c5b8e98f545358", func := "loop.example/medlar/laws.FnForms", spec := "fnForms", inPlace := ["internal/bytealg.IndexByteString", "internal/bytealg.IndexString"], unfollowed := true, recurses := true, named := ["internal/bytealg.MaxLen"], apart := false, narrowed := true }
def FnFormsUptoSaid : Prop := fnFormsUptoRow.holds Try.pinned (OpenSpec.upto fnFormsSpec)

/-- 'laws.FnBookWords', WHERE WHAT IT READS IS OF BULK AT MOST 1048576: true; the input reads as it did. -/
def fnBookWordsUptoRow : OpenClaim := { program := "ytaldbaapfdpbgaa", sum := "af7324b062941fa164c84d3eb958223a2ccb5900be6dd80650c5b8e98f545358", func := "loop.example/medlar/laws.FnBookWords", spec := "fnBookWords", inPlace := ["internal/bytealg.IndexByteString", "internal/bytealg.IndexString"], unfollowed := true, recurses := true, named := ["internal/bytealg.MaxLen"], apart := false, narrowed := true }
def FnBookWordsUptoSaid : Prop := fnBookWordsUptoRow.holds Try.pinned (OpenSpec.upto fnBookWordsSpec)

/-- 'laws.FnBookKnows', WHERE WHAT IT READS IS OF BULK AT MOST 1048576: true; the input reads as it did. -/
def fnBookKnowsUptoRow : OpenClaim := { program := "ytaldbaapfdpbgaa", sum := "af7324b062941fa164c84d3eb958223a2ccb5900be6dd80650c5b8e98f545358", func := "loop.example/medlar/laws.FnBookKnows", spec := "fnBookKnows", inPlace := ["internal/bytealg.IndexByteString", "internal/bytealg.IndexString"], unfollowed := true, recurses := true, named := ["internal/bytealg.MaxLen"], apart := false, narrowed := true }
def FnBookKnowsUptoSaid : Prop := fnBookKnowsUptoRow.holds Try.pinned (OpenSpec.upto fnBookKnowsSpec)

/-- 'laws.FnBookStems', WHERE WHAT IT READS IS OF BULK AT MOST 1048576: true; the input reads as it did. -/
def fnBookStemsUptoRow : OpenClaim := { program := "ytaldbaapfdpbgaa", sum := "af7324b062941fa164c84d3eb958223a2ccb5900be6dd80650c5b8e98f545358", func := "loop.example/medlar/laws.FnBookStems", spec := "fnBookStems", inPlace := ["internal/bytealg.IndexByteString", "internal/bytealg.IndexString"], unfollowed := true, recurses := true, named := ["internal/bytealg.MaxLen"], apart := false, narrowed := true }
def FnBookStemsUptoSaid : Prop := fnBookStemsUptoRow.holds Try.pinned (OpenSpec.upto fnBookStemsSpec)

/-- 'laws.FnNearBoth', WHERE WHAT IT READS IS OF BULK AT MOST 1048576: true; the input reads as it did. -/
def fnNearBothUptoRow : OpenClaim := { program := "ytaldbaapfdpbgaa", sum := "af7324b062941fa164c84d3eb958223a2ccb5900be6dd80650c5b8e98f545358", func := "loop.example/medlar/laws.FnNearBoth", spec := "fnNearBoth", unfollowed := true, recurses := true, apart := false, narrowed := true }
def FnNearBothUptoSaid : Prop := fnNearBothUptoRow.holds Try.pinned (OpenSpec.upto fnNearBothSpec)

/-- 'laws.FnBookMore', WHERE WHAT IT READS IS OF BULK AT MOST 1048576: true; the input reads as it did. -/
def fnBookMoreUptoRow : OpenClaim := { program := "ytaldbaapfdpbgaa", sum := "af7324b062941fa164c84d3eb958223a2ccb5900be6dd80650c5b8e98f545358", func := "loop.example/medlar/laws.FnBookMore", spec := "fnBookMore", inPlace := ["internal/bytealg.IndexByteString", "internal/bytealg.IndexString"], unfollowed := true, recurses := true, named := ["internal/bytealg.MaxLen"], apart := false, narrowed := true }
def FnBookMoreUptoSaid : Prop := fnBookMoreUptoRow.holds Try.pinned (OpenSpec.upto fnBookMoreSpec)

end Rows
end Go.Proofs.Ytaldbaapfdpbgaa
