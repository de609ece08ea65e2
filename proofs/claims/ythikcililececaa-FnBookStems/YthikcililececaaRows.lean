/-
  No cell of these rows narrows 'for every input' (looked for: loops, veiled, ifaces, maps, wideKeys, modest, calm, conditions, laid).
  DERIVED. THE GIVEN ROWS OF THIS SEAT. 4 by the template 'for every input the law returns true; each argument reads behind the call as it read before'; 0 by the template 'total and deterministic' (their statements: YthikcililececaaTotals.lean).
  GIVEN WITH THE SEED: the statements are not yours to turn. If you find one false, say at which input.
  Laid BY PROGRAM, IN A SANDBOX (cutbox-rows.mjs): the forced cells as the released guide's own fill.sh prints them over the translation 38eb8db61a896def… (all of the seat's roots in one cut). By AI agents, Wed Nov 11 2026. No macro, syntax, notation, axiom, sorry.
-/
import Derived.Test.YthikcililececaaChecked
import GoSem.Claim
import GoSem.ClaimJoined
import GoSem.ClaimMapViews
import Derived.JoinedTies
import Derived.KernelRfl
namespace Go.Proofs.Ythikcililececaa
/- THE CELL 'sum', in the pinned program and in every row, IS THE sha256 OF THE DUMP (.gsa) THAT YthikcililececaaProg.lean LOADS. Nothing in Lean hashes anything: it is a label: what it is worth is what the hold of that sum in a sandbox is worth. -/
noncomputable def Try.pinned : Pinned := { name := "ythikcililececaa", sum := "38eb8db61a896defcc1b82708fe1b098fe979978b1fd44a399db3a4f7bb6e470", checked := Try.checked }
namespace Rows
def none {H : Type} : Left H := { results := [], args := [] }

/-- 'laws.FnForms': WHATEVER THE INPUT: true; the input reads as it did. -/
def fnFormsSpec : ChangeSpec := { name := "fnForms", fn := fun _ => fun
  | [d] => { results := [.lit (.bool true)], args := [d] }
  | _ => none }
def fnFormsRow : OpenClaim := { program := "ythikcililececaa", sum := "38eb8db61a896defcc1b82708fe1b098fe979978b1fd44a399db3a4f7bb6e470", func := "loop.example/medlar/laws.FnForms", spec := "fnForms", inPlace := ["internal/bytealg.IndexByteString", "internal/bytealg.IndexString"], unfollowed := true, recurses := true, named := ["internal/bytealg.MaxLen"], apart := false }
def FnFormsSaid : Prop := fnFormsRow.holds Try.pinned (OpenSpec.ofChange fnFormsSpec)

/-- ITS FALSE NEIGHBOUR: 'it returns false'. Refute it at one input. -/
def fnFormsWrong : ChangeSpec := { name := "fnForms", fn := fun _ => fun
  | [d] => { results := [.lit (.bool false)], args := [d] }
  | _ => none }
def FnFormsWrongFalsely : Prop := fnFormsRow.holds Try.pinned (OpenSpec.ofChange fnFormsWrong)

/-- 'laws.FnBookWords': WHATEVER THE INPUT: true; the input reads as it did. -/
def fnBookWordsSpec : ChangeSpec := { name := "fnBookWords", fn := fun _ => fun
  | [d] => { results := [.lit (.bool true)], args := [d] }
  | _ => none }
def fnBookWordsRow : OpenClaim := { program := "ythikcililececaa", sum := "38eb8db61a896defcc1b82708fe1b098fe979978b1fd44a399db3a4f7bb6e470", func := "loop.example/medlar/laws.FnBookWords", spec := "fnBookWords", inPlace := ["internal/bytealg.IndexByteString", "internal/bytealg.IndexString"], unfollowed := true, recurses := true, named := ["internal/bytealg.MaxLen"], apart := false }
def FnBookWordsSaid : Prop := fnBookWordsRow.holds Try.pinned (OpenSpec.ofChange fnBookWordsSpec)

/-- ITS FALSE NEIGHBOUR: 'it returns false'. Refute it at one input. -/
def fnBookWordsWrong : ChangeSpec := { name := "fnBookWords", fn := fun _ => fun
  | [d] => { results := [.lit (.bool false)], args := [d] }
  | _ => none }
def FnBookWordsWrongFalsely : Prop := fnBookWordsRow.holds Try.pinned (OpenSpec.ofChange fnBookWordsWrong)

/-- 'laws.FnBookStems': WHATEVER THE INPUT: true; the input reads as it did. -/
def fnBookStemsSpec : ChangeSpec := { name := "fnBookStems", fn := fun _ => fun
  | [d] => { results := [.lit (.bool true)], args := [d] }
  | _ => none }
def fnBookStemsRow : OpenClaim := { program := "ythikcililececaa", sum := "38eb8db61a896defcc1b82708fe1b098fe979978b1fd44a399db3a4f7bb6e470", func := "loop.example/medlar/laws.FnBookStems", spec := "fnBookStems", inPlace := ["internal/bytealg.IndexByteString", "internal/bytealg.IndexString"], unfollowed := true, recurses := true, named := ["internal/bytealg.MaxLen"], apart := false }
def FnBookStemsSaid : Prop := fnBookStemsRow.holds Try.pinned (OpenSpec.ofChange fnBookStemsSpec)

/-- ITS FALSE NEIGHBOUR: 'it returns false'. Refute it at one input. -/
def fnBookStemsWrong : ChangeSpec := { name := "fnBookStems", fn := fun _ => fun
  | [d] => { results := [.lit (.bool false)], args := [d] }
  | _ => none }
def FnBookStemsWrongFalsely : Prop := fnBookStemsRow.holds Try.pinned (OpenSpec.ofChange fnBookStemsWrong)

/-- 'laws.FnBookMore': WHATEVER THE INPUT: true; the input reads as it did. -/
def fnBookMoreSpec : ChangeSpec := { name := "fnBookMore", fn := fun _ => fun
  | [d1, d2] => { results := [.lit (.bool true)], args := [d1, d2] }
  | _ => none }
def fnBookMoreRow : OpenClaim := { program := "ythikcililececaa", sum := "38eb8db61a896defcc1b82708fe1b098fe979978b1fd44a399db3a4f7bb6e470", func := "loop.example/medlar/laws.FnBookMore", spec := "fnBookMore", inPlace := ["internal/bytealg.IndexByteString", "internal/bytealg.IndexString"], unfollowed := true, recurses := true, named := ["internal/bytealg.MaxLen"], apart := false }
def FnBookMoreSaid : Prop := fnBookMoreRow.holds Try.pinned (OpenSpec.ofChange fnBookMoreSpec)

/-- ITS FALSE NEIGHBOUR: 'it returns false'. Refute it at one input. -/
def fnBookMoreWrong : ChangeSpec := { name := "fnBookMore", fn := fun _ => fun
  | [d1, d2] => { results := [.lit (.bool false)], args := [d1, d2] }
  | _ => none }
def FnBookMoreWrongFalsely : Prop := fnBookMoreRow.holds Try.pinned (OpenSpec.ofChange fnBookMoreWrong)

/- THE SECOND FORM. 'bulk': how many values and letters a reading holds, each counted each time it is reached (what is shared counts as often as it is met; a slice's spare places count too). A statement '..UptoSaid' is the law's where the arguments, and the package variables that the reading takes, are together of bulk at most 1048576: NARROWER than '..Said'. Prove '..Said' where nothing that the law and all that it calls make is longer than what came in: it says more and counts as full. Else prove '..UptoSaid'. A law counts once. -/
mutual
def uptoBulk {H : Type} : DataW H → Nat
  | .lit (.string bytes) => bytes.length + 1
  | .lit _ => 1
  | .nil => 1
  | .ptr d => uptoBulk d + 1
  | .slice elems spare => uptoBulkAll elems + uptoBulkAll spare + 1
  | .agg parts => uptoBulkAll parts + 1
  | .iface _ d => uptoBulk d + 1
  | .map entries => uptoBulkEntries entries + 1
  | .held _ => 1
def uptoBulkAll {H : Type} : List (DataW H) → Nat
  | [] => 0
  | d :: r => uptoBulk d + uptoBulkAll r
def uptoBulkEntries {H : Type} : List (Lit × DataW H) → Nat
  | [] => 0
  | x :: r => uptoBulkEntry x + uptoBulkEntries r
def uptoBulkEntry {H : Type} : Lit × DataW H → Nat
  | (.string bytes, d) => bytes.length + uptoBulk d + 1
  | (_, d) => uptoBulk d + 1
 end
def uptoSmall : (H : Type) → List (DataW H) → Bool := fun _ ds => decide (uptoBulkAll ds ≤ 1048576)
def OpenSpec.upto (s : _root_.Go.ChangeSpec) : _root_.Go.OpenSpec := { _root_.Go.OpenSpec.ofChange s with cond := some uptoSmall }

/-- 'laws.FnForms', WHERE WHAT IT READS IS OF BULK AT MOST 1048576: true; the input reads as it did. -/
def fnFormsUptoRow : OpenClaim := { program := "ythikcililececaa", sum := "38eb8db61a896defcc1b82708fe1b098fe979978b1fd44a399db3a4f7bb6e470", func := "loop.example/medlar/laws.FnForms", spec := "fnForms", inPlace := ["internal/bytealg.IndexByteString", "internal/bytealg.IndexString"], unfollowed := true, recurses := true, named := ["internal/bytealg.MaxLen"], apart := false, narrowed := true }
def FnFormsUptoSaid : Prop := fnFormsUptoRow.holds Try.pinned (OpenSpec.upto fnFormsSpec)

/-- 'laws.FnBookWords', WHERE WHAT IT READS IS OF BULK AT MOST 1048576: true; the input reads as it did. -/
def fnBookWordsUptoRow : OpenClaim := { program := "ythikcililececaa", sum := "38eb8db61a896defcc1b82708fe1b098fe979978b1fd44a399db3a4f7bb6e470", func := "loop.example/medlar/laws.FnBookWords", spec := "fnBookWords", inPlace := ["internal/bytealg.IndexByteString", "internal/bytealg.IndexString"], unfollowed := true, recurses := true, named := ["internal/bytealg.MaxLen"], apart := false, narrowed := true }
def FnBookWordsUptoSaid : Prop := fnBookWordsUptoRow.holds Try.pinned (OpenSpec.upto fnBookWordsSpec)

/-- 'laws.FnBookStems', WHERE WHAT IT READS IS OF BULK AT MOST 1048576: true; the input reads as it did. -/
def fnBookStemsUptoRow : OpenClaim := { program := "ythikcililececaa", sum := "38eb8db61a896defcc1b82708fe1b098fe979978b1fd44a399db3a4f7bb6e470", func := "loop.example/medlar/laws.FnBookStems", spec := "fnBookStems", inPlace := ["internal/bytealg.IndexByteString", "internal/bytealg.IndexString"], unfollowed := true, recurses := true, named := ["internal/bytealg.MaxLen"], apart := false, narrowed := true }
def FnBookStemsUptoSaid : Prop := fnBookStemsUptoRow.holds Try.pinned (OpenSpec.upto fnBookStemsSpec)

/-- 'laws.FnBookMore', WHERE WHAT IT READS IS OF BULK AT MOST 1048576: true; the input reads as it did. -/
def fnBookMoreUptoRow : OpenClaim := { program := "ythikcililececaa", sum := "38eb8db61a896defcc1b82708fe1b098fe979978b1fd44a399db3a4f7bb6e470", func := "loop.example/medlar/laws.FnBookMore", spec := "fnBookMore", inPlace := ["internal/bytealg.IndexByteString", "internal/bytealg.IndexString"], unfollowed := true, recurses := true, named := ["internal/bytealg.MaxLen"], apart := false, narrowed := true }
def FnBookMoreUptoSaid : Prop := fnBookMoreUptoRow.holds Try.pinned (OpenSpec.upto fnBookMoreSpec)

end Rows
end Go.Proofs.Ythikcililececaa
