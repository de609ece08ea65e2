/-
  No cell of these rows narrows 'for every input' (looked for: loops, veiled, ifaces, maps, wideKeys, modest, calm, conditions, laid).
  DERIVED. THE GIVEN ROWS OF THIS SEAT. 14 by the template 'for every input the law returns true; each argument reads behind the call as it read before'; 0 by the template 'total and deterministic' (their statements: YtajhghjliegnfaaTotals.lean).
  GIVEN WITH THE SEED: the statements are not yours to turn. If you find one false, say at which input.
  Laid BY PROGRAM, IN A SANDBOX (cutbox-rows.mjs): the forced cells as the released guide's own fill.sh prints them over the translation 2c5a8a00c35d24f7… (all of the seat's roots in one cut). By AI agents, Wed Nov 11 2026. No macro, syntax, notation, axiom, sorry.
-/
import Derived.Test.YtajhghjliegnfaaChecked
import GoSem.Claim
import GoSem.ClaimJoined
import GoSem.ClaimMapViews
import Derived.JoinedTies
import Derived.KernelRfl
namespace Go.Proofs.Ytajhghjliegnfaa
/- THE CELL 'sum', in the pinned program and in every row, IS THE sha256 OF THE DUMP (.gsa) THAT YtajhghjliegnfaaProg.lean LOADS. Nothing in Lean hashes anything: it is a label: what it is worth is what the hold of that sum in a sandbox is worth. -/
noncomputable def Try.pinned : Pinned := { name := "ytajhghjliegnfaa", sum := "2c5a8a00c35d24f7514510011debb6558a7922cde0dafc600d16e7af4127b83a", checked := Try.checked }
namespace Rows
def none {H : Type} : Left H := { results := [], args := [] }

/-- 'laws.FnExactWordOk': WHATEVER THE INPUT: true; the input reads as it did. -/
def fnExactWordOkSpec : ChangeSpec := { name := "fnExactWordOk", fn := fun _ => fun
  | [d] => { results := [.lit (.bool true)], args := [d] }
  | _ => none }
def fnExactWordOkRow : OpenClaim := { program := "ytajhghjliegnfaa", sum := "2c5a8a00c35d24f7514510011debb6558a7922cde0dafc600d16e7af4127b83a", func := "loop.example/medlar/laws.FnExactWordOk", spec := "fnExactWordOk", apart := false }
def FnExactWordOkSaid : Prop := fnExactWordOkRow.holds Try.pinned (OpenSpec.ofChange fnExactWordOkSpec)

/-- ITS FALSE NEIGHBOUR: 'it returns false'. Refute it at one input. -/
def fnExactWordOkWrong : ChangeSpec := { name := "fnExactWordOk", fn := fun _ => fun
  | [d] => { results := [.lit (.bool false)], args := [d] }
  | _ => none }
def FnExactWordOkWrongFalsely : Prop := fnExactWordOkRow.holds Try.pinned (OpenSpec.ofChange fnExactWordOkWrong)

/-- 'laws.FnExactFar': WHATEVER THE INPUT: true; the input reads as it did. -/
def fnExactFarSpec : ChangeSpec := { name := "fnExactFar", fn := fun _ => fun
  | [d1, d2] => { results := [.lit (.bool true)], args := [d1, d2] }
  | _ => none }
def fnExactFarRow : OpenClaim := { program := "ytajhghjliegnfaa", sum := "2c5a8a00c35d24f7514510011debb6558a7922cde0dafc600d16e7af4127b83a", func := "loop.example/medlar/laws.FnExactFar", spec := "fnExactFar", apart := false }
def FnExactFarSaid : Prop := fnExactFarRow.holds Try.pinned (OpenSpec.ofChange fnExactFarSpec)

/-- ITS FALSE NEIGHBOUR: 'it returns false'. Refute it at one input. -/
def fnExactFarWrong : ChangeSpec := { name := "fnExactFar", fn := fun _ => fun
  | [d1, d2] => { results := [.lit (.bool false)], args := [d1, d2] }
  | _ => none }
def FnExactFarWrongFalsely : Prop := fnExactFarRow.holds Try.pinned (OpenSpec.ofChange fnExactFarWrong)

/-- 'laws.FnExactNear': WHATEVER THE INPUT: true; the input reads as it did. -/
def fnExactNearSpec : ChangeSpec := { name := "fnExactNear", fn := fun _ => fun
  | [d] => { results := [.lit (.bool true)], args := [d] }
  | _ => none }
def fnExactNearRow : OpenClaim := { program := "ytajhghjliegnfaa", sum := "2c5a8a00c35d24f7514510011debb6558a7922cde0dafc600d16e7af4127b83a", func := "loop.example/medlar/laws.FnExactNear", spec := "fnExactNear", unfollowed := true, recurses := true, apart := false }
def FnExactNearSaid : Prop := fnExactNearRow.holds Try.pinned (OpenSpec.ofChange fnExactNearSpec)

/-- ITS FALSE NEIGHBOUR: 'it returns false'. Refute it at one input. -/
def fnExactNearWrong : ChangeSpec := { name := "fnExactNear", fn := fun _ => fun
  | [d] => { results := [.lit (.bool false)], args := [d] }
  | _ => none }
def FnExactNearWrongFalsely : Prop := fnExactNearRow.holds Try.pinned (OpenSpec.ofChange fnExactNearWrong)

/-- 'laws.FnExactBeginning': WHATEVER THE INPUT: true; the input reads as it did. -/
def fnExactBeginningSpec : ChangeSpec := { name := "fnExactBeginning", fn := fun _ => fun
  | [d1, d2] => { results := [.lit (.bool true)], args := [d1, d2] }
  | _ => none }
def fnExactBeginningRow : OpenClaim := { program := "ytajhghjliegnfaa", sum := "2c5a8a00c35d24f7514510011debb6558a7922cde0dafc600d16e7af4127b83a", func := "loop.example/medlar/laws.FnExactBeginning", spec := "fnExactBeginning", apart := false }
def FnExactBeginningSaid : Prop := fnExactBeginningRow.holds Try.pinned (OpenSpec.ofChange fnExactBeginningSpec)

/-- ITS FALSE NEIGHBOUR: 'it returns false'. Refute it at one input. -/
def fnExactBeginningWrong : ChangeSpec := { name := "fnExactBeginning", fn := fun _ => fun
  | [d1, d2] => { results := [.lit (.bool false)], args := [d1, d2] }
  | _ => none }
def FnExactBeginningWrongFalsely : Prop := fnExactBeginningRow.holds Try.pinned (OpenSpec.ofChange fnExactBeginningWrong)

/-- 'laws.FnExactWithin': WHATEVER THE INPUT: true; the input reads as it did. -/
def fnExactWithinSpec : ChangeSpec := { name := "fnExactWithin", fn := fun _ => fun
  | [d1, d2, d3] => { results := [.lit (.bool true)], args := [d1, d2, d3] }
  | _ => none }
def fnExactWithinRow : OpenClaim := { program := "ytajhghjliegnfaa", sum := "2c5a8a00c35d24f7514510011debb6558a7922cde0dafc600d16e7af4127b83a", func := "loop.example/medlar/laws.FnExactWithin", spec := "fnExactWithin", apart := false }
def FnExactWithinSaid : Prop := fnExactWithinRow.holds Try.pinned (OpenSpec.ofChange fnExactWithinSpec)

/-- ITS FALSE NEIGHBOUR: 'it returns false'. Refute it at one input. -/
def fnExactWithinWrong : ChangeSpec := { name := "fnExactWithin", fn := fun _ => fun
  | [d1, d2, d3] => { results := [.lit (.bool false)], args := [d1, d2, d3] }
  | _ => none }
def FnExactWithinWrongFalsely : Prop := fnExactWithinRow.holds Try.pinned (OpenSpec.ofChange fnExactWithinWrong)

/-- 'laws.FnExactAffixOk': WHATEVER THE INPUT: true; the input reads as it did. -/
def fnExactAffixOkSpec : ChangeSpec := { name := "fnExactAffixOk", fn := fun _ => fun
  | [d] => { results := [.lit (.bool true)], args := [d] }
  | _ => none }
def fnExactAffixOkRow : OpenClaim := { program := "ytajhghjliegnfaa", sum := "2c5a8a00c35d24f7514510011debb6558a7922cde0dafc600d16e7af4127b83a", func := "loop.example/medlar/laws.FnExactAffixOk", spec := "fnExactAffixOk", unfollowed := true, recurses := true, apart := false }
def FnExactAffixOkSaid : Prop := fnExactAffixOkRow.holds Try.pinned (OpenSpec.ofChange fnExactAffixOkSpec)

/-- ITS FALSE NEIGHBOUR: 'it returns false'. Refute it at one input. -/
def fnExactAffixOkWrong : ChangeSpec := { name := "fnExactAffixOk", fn := fun _ => fun
  | [d] => { results := [.lit (.bool false)], args := [d] }
  | _ => none }
def FnExactAffixOkWrongFalsely : Prop := fnExactAffixOkRow.holds Try.pinned (OpenSpec.ofChange fnExactAffixOkWrong)

/-- 'laws.FnExactAffixDo': WHATEVER THE INPUT: true; the input reads as it did. -/
def fnExactAffixDoSpec : ChangeSpec := { name := "fnExactAffixDo", fn := fun _ => fun
  | [d1, d2] => { results := [.lit (.bool true)], args := [d1, d2] }
  | _ => none }
def fnExactAffixDoRow : OpenClaim := { program := "ytajhghjliegnfaa", sum := "2c5a8a00c35d24f7514510011debb6558a7922cde0dafc600d16e7af4127b83a", func := "loop.example/medlar/laws.FnExactAffixDo", spec := "fnExactAffixDo", unfollowed := true, recurses := true, apart := false }
def FnExactAffixDoSaid : Prop := fnExactAffixDoRow.holds Try.pinned (OpenSpec.ofChange fnExactAffixDoSpec)

/-- ITS FALSE NEIGHBOUR: 'it returns false'. Refute it at one input. -/
def fnExactAffixDoWrong : ChangeSpec := { name := "fnExactAffixDo", fn := fun _ => fun
  | [d1, d2] => { results := [.lit (.bool false)], args := [d1, d2] }
  | _ => none }
def FnExactAffixDoWrongFalsely : Prop := fnExactAffixDoRow.holds Try.pinned (OpenSpec.ofChange fnExactAffixDoWrong)

/-- 'laws.FnExactAffixBack': WHATEVER THE INPUT: true; the input reads as it did. -/
def fnExactAffixBackSpec : ChangeSpec := { name := "fnExactAffixBack", fn := fun _ => fun
  | [d1, d2] => { results := [.lit (.bool true)], args := [d1, d2] }
  | _ => none }
def fnExactAffixBackRow : OpenClaim := { program := "ytajhghjliegnfaa", sum := "2c5a8a00c35d24f7514510011debb6558a7922cde0dafc600d16e7af4127b83a", func := "loop.example/medlar/laws.FnExactAffixBack", spec := "fnExactAffixBack", unfollowed := true, recurses := true, apart := false }
def FnExactAffixBackSaid : Prop := fnExactAffixBackRow.holds Try.pinned (OpenSpec.ofChange fnExactAffixBackSpec)

/-- ITS FALSE NEIGHBOUR: 'it returns false'. Refute it at one input. -/
def fnExactAffixBackWrong : ChangeSpec := { name := "fnExactAffixBack", fn := fun _ => fun
  | [d1, d2] => { results := [.lit (.bool false)], args := [d1, d2] }
  | _ => none }
def FnExactAffixBackWrongFalsely : Prop := fnExactAffixBackRow.holds Try.pinned (OpenSpec.ofChange fnExactAffixBackWrong)

/-- 'laws.FnExactForms': WHATEVER THE INPUT: true; the input reads as it did. -/
def fnExactFormsSpec : ChangeSpec := { name := "fnExactForms", fn := fun _ => fun
  | [d1, d2] => { results := [.lit (.bool true)], args := [d1, d2] }
  | _ => none }
def fnExactFormsRow : OpenClaim := { program := "ytajhghjliegnfaa", sum := "2c5a8a00c35d24f7514510011debb6558a7922cde0dafc600d16e7af4127b83a", func := "loop.example/medlar/laws.FnExactForms", spec := "fnExactForms", inPlace := ["internal/bytealg.IndexByteString", "internal/bytealg.IndexString"], unfollowed := true, recurses := true, named := ["internal/bytealg.MaxLen"], apart := false }
def FnExactFormsSaid : Prop := fnExactFormsRow.holds Try.pinned (OpenSpec.ofChange fnExactFormsSpec)

/-- ITS FALSE NEIGHBOUR: 'it returns false'. Refute it at one input. -/
def fnExactFormsWrong : ChangeSpec := { name := "fnExactForms", fn := fun _ => fun
  | [d1, d2] => { results := [.lit (.bool false)], args := [d1, d2] }
  | _ => none }
def FnExactFormsWrongFalsely : Prop := fnExactFormsRow.holds Try.pinned (OpenSpec.ofChange fnExactFormsWrong)

/-- 'laws.FnExactBookOk': WHATEVER THE INPUT: true; the input reads as it did. -/
def fnExactBookOkSpec : ChangeSpec := { name := "fnExactBookOk", fn := fun _ => fun
  | [d] => { results := [.lit (.bool true)], args := [d] }
  | _ => none }
def fnExactBookOkRow : OpenClaim := { program := "ytajhghjliegnfaa", sum := "2c5a8a00c35d24f7514510011debb6558a7922cde0dafc600d16e7af4127b83a", func := "loop.example/medlar/laws.FnExactBookOk", spec := "fnExactBookOk", unfollowed := true, recurses := true, apart := false }
def FnExactBookOkSaid : Prop := fnExactBookOkRow.holds Try.pinned (OpenSpec.ofChange fnExactBookOkSpec)

/-- ITS FALSE NEIGHBOUR: 'it returns false'. Refute it at one input. -/
def fnExactBookOkWrong : ChangeSpec := { name := "fnExactBookOk", fn := fun _ => fun
  | [d] => { results := [.lit (.bool false)], args := [d] }
  | _ => none }
def FnExactBookOkWrongFalsely : Prop := fnExactBookOkRow.holds Try.pinned (OpenSpec.ofChange fnExactBookOkWrong)

/-- 'laws.FnExactBookWords': WHATEVER THE INPUT: true; the input reads as it did. -/
def fnExactBookWordsSpec : ChangeSpec := { name := "fnExactBookWords", fn := fun _ => fun
  | [d] => { results := [.lit (.bool true)], args := [d] }
  | _ => none }
def fnExactBookWordsRow : OpenClaim := { program := "ytajhghjliegnfaa", sum := "2c5a8a00c35d24f7514510011debb6558a7922cde0dafc600d16e7af4127b83a", func := "loop.example/medlar/laws.FnExactBookWords", spec := "fnExactBookWords", inPlace := ["internal/bytealg.IndexByteString", "internal/bytealg.IndexString"], unfollowed := true, recurses := true, named := ["internal/bytealg.MaxLen"], apart := false }
def FnExactBookWordsSaid : Prop := fnExactBookWordsRow.holds Try.pinned (OpenSpec.ofChange fnExactBookWordsSpec)

/-- ITS FALSE NEIGHBOUR: 'it returns false'. Refute it at one input. -/
def fnExactBookWordsWrong : ChangeSpec := { name := "fnExactBookWords", fn := fun _ => fun
  | [d] => { results := [.lit (.bool false)], args := [d] }
  | _ => none }
def FnExactBookWordsWrongFalsely : Prop := fnExactBookWordsRow.holds Try.pinned (OpenSpec.ofChange fnExactBookWordsWrong)

/-- 'laws.FnExactBookKnows': WHATEVER THE INPUT: true; the input reads as it did. -/
def fnExactBookKnowsSpec : ChangeSpec := { name := "fnExactBookKnows", fn := fun _ => fun
  | [d1, d2] => { results := [.lit (.bool true)], args := [d1, d2] }
  | _ => none }
def fnExactBookKnowsRow : OpenClaim := { program := "ytajhghjliegnfaa", sum := "2c5a8a00c35d24f7514510011debb6558a7922cde0dafc600d16e7af4127b83a", func := "loop.example/medlar/laws.FnExactBookKnows", spec := "fnExactBookKnows", inPlace := ["internal/bytealg.IndexByteString", "internal/bytealg.IndexString"], unfollowed := true, recurses := true, named := ["internal/bytealg.MaxLen"], apart := false }
def FnExactBookKnowsSaid : Prop := fnExactBookKnowsRow.holds Try.pinned (OpenSpec.ofChange fnExactBookKnowsSpec)

/-- ITS FALSE NEIGHBOUR: 'it returns false'. Refute it at one input. -/
def fnExactBookKnowsWrong : ChangeSpec := { name := "fnExactBookKnows", fn := fun _ => fun
  | [d1, d2] => { results := [.lit (.bool false)], args := [d1, d2] }
  | _ => none }
def FnExactBookKnowsWrongFalsely : Prop := fnExactBookKnowsRow.holds Try.pinned (OpenSpec.ofChange fnExactBookKnowsWrong)

/-- 'laws.FnExactBookStems': WHATEVER THE INPUT: true; the input reads as it did. -/
def fnExactBookStemsSpec : ChangeSpec := { name := "fnExactBookStems", fn := fun _ => fun
  | [d1, d2] => { results := [.lit (.bool true)], args := [d1, d2] }
  | _ => none }
def fnExactBookStemsRow : OpenClaim := { program := "ytajhghjliegnfaa", sum := "2c5a8a00c35d24f7514510011debb6558a7922cde0dafc600d16e7af4127b83a", func := "loop.example/medlar/laws.FnExactBookStems", spec := "fnExactBookStems", inPlace := ["internal/bytealg.IndexByteString", "internal/bytealg.IndexString"], unfollowed := true, recurses := true, named := ["internal/bytealg.MaxLen"], apart := false }
def FnExactBookStemsSaid : Prop := fnExactBookStemsRow.holds Try.pinned (OpenSpec.ofChange fnExactBookStemsSpec)

/-- ITS FALSE NEIGHBOUR: 'it returns false'. Refute it at one input. -/
def fnExactBookStemsWrong : ChangeSpec := { name := "fnExactBookStems", fn := fun _ => fun
  | [d1, d2] => { results := [.lit (.bool false)], args := [d1, d2] }
  | _ => none }
def FnExactBookStemsWrongFalsely : Prop := fnExactBookStemsRow.holds Try.pinned (OpenSpec.ofChange fnExactBookStemsWrong)

/-- 'laws.FnExactBookPut': WHATEVER THE INPUT: true; the input reads as it did. -/
def fnExactBookPutSpec : ChangeSpec := { name := "fnExactBookPut", fn := fun _ => fun
  | [d] => { results := [.lit (.bool true)], args := [d] }
  | _ => none }
def fnExactBookPutRow : OpenClaim := { program := "ytajhghjliegnfaa", sum := "2c5a8a00c35d24f7514510011debb6558a7922cde0dafc600d16e7af4127b83a", func := "loop.example/medlar/laws.FnExactBookPut", spec := "fnExactBookPut", inPlace := ["internal/abi.NoEscape", "internal/bytealg.MakeNoZero"], unfollowed := true, recurses := true, apart := false }
def FnExactBookPutSaid : Prop := fnExactBookPutRow.holds Try.pinned (OpenSpec.ofChange fnExactBookPutSpec)

/-- ITS FALSE NEIGHBOUR: 'it returns false'. Refute it at one input. -/
def fnExactBookPutWrong : ChangeSpec := { name := "fnExactBookPut", fn := fun _ => fun
  | [d] => { results := [.lit (.bool false)], args := [d] }
  | _ => none }
def FnExactBookPutWrongFalsely : Prop := fnExactBookPutRow.holds Try.pinned (OpenSpec.ofChange fnExactBookPutWrong)

/- THE SECOND FORM. 'bulk': how many values and letters a reading holds, each counted each time it is reached (what is shared counts as often as it is met; a slice's spare places count too). A statement '..UptoSaid' is the law's where the arguments, and the package variables that the reading takes, are together of bulk at most 1048576: NARROWER than '..Said'. Prove '..Said' where nothing that the law and all that it calls make is longer than what came in: it says more and counts as full. Else prove '..UptoSaid'. A law counts once. -/
mutual
def uptoBulk {H : Type} : DataW H → Nat
  | .lit (.string bytes) => bytes.length + 1
  | .lit _ => 1
  | .nil => 1
  | .ptr d => uptoBulk d + 1
  | .slice elems spare => uptoBulkAll elems + uptoBulkAll spare + 1
  | .agg parts => uptoBulkAll parts + 1
  | .iface _ d => uptoBulk d + 1
  | .map entries => uptoBulkEntries entries + 1
  | .held _ => 1
def uptoBulkAll {H : Type} : List (DataW H) → Nat
  | [] => 0
  | d :: r => uptoBulk d + uptoBulkAll r
def uptoBulkEntries {H : Type} : List (Lit × DataW H) → Nat
  | [] => 0
  | x :: r => uptoBulkEntry x + uptoBulkEntries r
def uptoBulkEntry {H : Type} : Lit × DataW H → Nat
  | (.string bytes, d) => bytes.length + uptoBulk d + 1
  | (_, d) => uptoBulk d + 1
 end
def uptoSmall : (H : Type) → List (DataW H) → Bool := fun _ ds => decide (uptoBulkAll ds ≤ 1048576)
def OpenSpec.upto (s : _root_.Go.ChangeSpec) : _root_.Go.OpenSpec := { _root_.Go.OpenSpec.ofChange s with cond := some uptoSmall }

/-- 'laws.FnExactWordOk', WHERE WHAT IT READS IS OF BULK AT MOST 1048576: true; the input reads as it did. -/
def fnExactWordOkUptoRow : OpenClaim := { program := "ytajhghjliegnfaa", sum := "2c5a8a00c35d24f7514510011debb6558a7922cde0dafc600d16e7af4127b83a", func := "loop.example/medlar/laws.FnExactWordOk", spec := "fnExactWordOk", apart := false, narrowed := true }
def FnExactWordOkUptoSaid : Prop := fnExactWordOkUptoRow.holds Try.pinned (OpenSpec.upto fnExactWordOkSpec)

/-- 'laws.FnExactFar', WHERE WHAT IT READS IS OF BULK AT MOST 1048576: true; the input reads as it did. -/
def fnExactFarUptoRow : OpenClaim := { program := "ytajhghjliegnfaa", sum := "2c5a8a00c35d24f7514510011debb6558a7922cde0dafc600d16e7af4127b83a", func := "loop.example/medlar/laws.FnExactFar", spec := "fnExactFar", apart := false, narrowed := true }
def FnExactFarUptoSaid : Prop := fnExactFarUptoRow.holds Try.pinned (OpenSpec.upto fnExactFarSpec)

/-- 'laws.FnExactNear', WHERE WHAT IT READS IS OF BULK AT MOST 1048576: true; the input reads as it did. -/
def fnExactNearUptoRow : OpenClaim := { program := "ytajhghjliegnfaa", sum := "2c5a8a00c35d24f7514510011debb6558a7922cde0dafc600d16e7af4127b83a", func := "loop.example/medlar/laws.FnExactNear", spec := "fnExactNear", unfollowed := true, recurses := true, apart := false, narrowed := true }
def FnExactNearUptoSaid : Prop := fnExactNearUptoRow.holds Try.pinned (OpenSpec.upto fnExactNearSpec)

/-- 'laws.FnExactBeginning', WHERE WHAT IT READS IS OF BULK AT MOST 1048576: true; the input reads as it did. -/
def fnExactBeginningUptoRow : OpenClaim := { program := "ytajhghjliegnfaa", sum := "2c5a8a00c35d24f7514510011debb6558a7922cde0dafc600d16e7af4127b83a", func := "loop.example/medlar/laws.FnExactBeginning", spec := "fnExactBeginning", apart := false, narrowed := true }
def FnExactBeginningUptoSaid : Prop := fnExactBeginningUptoRow.holds Try.pinned (OpenSpec.upto fnExactBeginningSpec)

/-- 'laws.FnExactWithin', WHERE WHAT IT READS IS OF BULK AT MOST 1048576: true; the input reads as it did. -/
def fnExactWithinUptoRow : OpenClaim := { program := "ytajhghjliegnfaa", sum := "2c5a8a00c35d24f7514510011debb6558a7922cde0dafc600d16e7af4127b83a", func := "loop.example/medlar/laws.FnExactWithin", spec := "fnExactWithin", apart := false, narrowed := true }
def FnExactWithinUptoSaid : Prop := fnExactWithinUptoRow.holds Try.pinned (OpenSpec.upto fnExactWithinSpec)

/-- 'laws.FnExactAffixOk', WHERE WHAT IT READS IS OF BULK AT MOST 1048576: true; the input reads as it did. -/
def fnExactAffixOkUptoRow : OpenClaim := { program := "ytajhghjliegnfaa", sum := "2c5a8a00c35d24f7514510011debb6558a7922cde0dafc600d16e7af4127b83a", func := "loop.example/medlar/laws.FnExactAffixOk", spec := "fnExactAffixOk", unfollowed := true, recurses := true, apart := false, narrowed := true }
def FnExactAffixOkUptoSaid : Prop := fnExactAffixOkUptoRow.holds Try.pinned (OpenSpec.upto fnExactAffixOkSpec)

/-- 'laws.FnExactAffixDo', WHERE WHAT IT READS IS OF BULK AT MOST 1048576: true; the input reads as it did. -/
def fnExactAffixDoUptoRow : OpenClaim := { program := "ytajhghjliegnfaa", sum := "2c5a8a00c35d24f7514510011debb6558a7922cde0dafc600d16e7af4127b83a", func := "loop.example/medlar/laws.FnExactAffixDo", spec := "fnExactAffixDo", unfollowed := true, recurses := true, apart := false, narrowed := true }
def FnExactAffixDoUptoSaid : Prop := fnExactAffixDoUptoRow.holds Try.pinned (OpenSpec.upto fnExactAffixDoSpec)

/-- 'laws.FnExactAffixBack', WHERE WHAT IT READS IS OF BULK AT MOST 1048576: true; the input reads as it did. -/
def fnExactAffixBackUptoRow : OpenClaim := { program := "ytajhghjliegnfaa", sum := "2c5a8a00c35d24f7514510011debb6558a7922cde0dafc600d16e7af4127b83a", func := "loop.example/medlar/laws.FnExactAffixBack", spec := "fnExactAffixBack", unfollowed := true, recurses := true, apart := false, narrowed := true }
def FnExactAffixBackUptoSaid : Prop := fnExactAffixBackUptoRow.holds Try.pinned (OpenSpec.upto fnExactAffixBackSpec)

/-- 'laws.FnExactForms', WHERE WHAT IT READS IS OF BULK AT MOST 1048576: true; the input reads as it did. -/
def fnExactFormsUptoRow : OpenClaim := { program := "ytajhghjliegnfaa", sum := "2c5a8a00c35d24f7514510011debb6558a7922cde0dafc600d16e7af4127b83a", func := "loop.example/medlar/laws.FnExactForms", spec := "fnExactForms", inPlace := ["internal/bytealg.IndexByteString", "internal/bytealg.IndexString"], unfollowed := true, recurses := true, named := ["internal/bytealg.MaxLen"], apart := false, narrowed := true }
def FnExactFormsUptoSaid : Prop := fnExactFormsUptoRow.holds Try.pinned (OpenSpec.upto fnExactFormsSpec)

/-- 'laws.FnExactBookOk', WHERE WHAT IT READS IS OF BULK AT MOST 1048576: true; the input reads as it did. -/
def fnExactBookOkUptoRow : OpenClaim := { program := "ytajhghjliegnfaa", sum := "2c5a8a00c35d24f7514510011debb6558a7922cde0dafc600d16e7af4127b83a", func := "loop.example/medlar/laws.FnExactBookOk", spec := "fnExactBookOk", unfollowed := true, recurses := true, apart := false, narrowed := true }
def FnExactBookOkUptoSaid : Prop := fnExactBookOkUptoRow.holds Try.pinned (OpenSpec.upto fnExactBookOkSpec)

/-- 'laws.FnExactBookWords', WHERE WHAT IT READS IS OF BULK AT MOST 1048576: true; the input reads as it did. -/
def fnExactBookWordsUptoRow : OpenClaim := { program := "ytajhghjliegnfaa", sum := "2c5a8a00c35d24f7514510011debb6558a7922cde0dafc600d16e7af4127b83a", func := "loop.example/medlar/laws.FnExactBookWords", spec := "fnExactBookWords", inPlace := ["internal/bytealg.IndexByteString", "internal/bytealg.IndexString"], unfollowed := true, recurses := true, named := ["internal/bytealg.MaxLen"], apart := false, narrowed := true }
def FnExactBookWordsUptoSaid : Prop := fnExactBookWordsUptoRow.holds Try.pinned (OpenSpec.upto fnExactBookWordsSpec)

/-- 'laws.FnExactBookKnows', WHERE WHAT IT READS IS OF BULK AT MOST 1048576: true; the input reads as it did. -/
def fnExactBookKnowsUptoRow : OpenClaim := { program := "ytajhghjliegnfaa", sum := "2c5a8a00c35d24f7514510011debb6558a7922cde0dafc600d16e7af4127b83a", func := "loop.example/medlar/laws.FnExactBookKnows", spec := "fnExactBookKnows", inPlace := ["internal/bytealg.IndexByteString", "internal/bytealg.IndexString"], unfollowed := true, recurses := true, named := ["internal/bytealg.MaxLen"], apart := false, narrowed := true }
def FnExactBookKnowsUptoSaid : Prop := fnExactBookKnowsUptoRow.holds Try.pinned (OpenSpec.upto fnExactBookKnowsSpec)

/-- 'laws.FnExactBookStems', WHERE WHAT IT READS IS OF BULK AT MOST 1048576: true; the input reads as it did. -/
def fnExactBookStemsUptoRow : OpenClaim := { program := "ytajhghjliegnfaa", sum := "2c5a8a00c35d24f7514510011debb6558a7922cde0dafc600d16e7af4127b83a", func := "loop.example/medlar/laws.FnExactBookStems", spec := "fnExactBookStems", inPlace := ["internal/bytealg.IndexByteString", "internal/bytealg.IndexString"], unfollowed := true, recurses := true, named := ["internal/bytealg.MaxLen"], apart := false, narrowed := true }
def FnExactBookStemsUptoSaid : Prop := fnExactBookStemsUptoRow.holds Try.pinned (OpenSpec.upto fnExactBookStemsSpec)

/-- 'laws.FnExactBookPut', WHERE WHAT IT READS IS OF BULK AT MOST 1048576: true; the input reads as it did. -/
def fnExactBookPutUptoRow : OpenClaim := { program := "ytajhghjliegnfaa", sum := "2c5a8a00c35d24f7514510011debb6558a7922cde0dafc600d16e7af4127b83a", func := "loop.example/medlar/laws.FnExactBookPut", spec := "fnExactBookPut", inPlace := ["internal/abi.NoEscape", "internal/bytealg.MakeNoZero"], unfollowed := true, recurses := true, apart := false, narrowed := true }
def FnExactBookPutUptoSaid : Prop := fnExactBookPutUptoRow.holds Try.pinned (OpenSpec.upto fnExactBookPutSpec)

end Rows
end Go.Proofs.Ytajhghjliegnfaa
