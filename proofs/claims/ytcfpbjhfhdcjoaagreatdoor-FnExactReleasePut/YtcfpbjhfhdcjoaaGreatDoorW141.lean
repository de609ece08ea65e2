/-
  Contracts of copies, marks and what holds them, in one form.
-/
import Derived.Test.YtcfpbjhfhdcjoaaGreatDoorW140
namespace Go.Proofs.YtcfpbjhfhdcjoaaGreatDoor
open Go.RowKit
set_option linter.unusedVariables false
theorem toAffixS_x (w : World) (v : Value) (x : List Aff) (h : AffsAt w v x) (hs : x.length ≤ 1048576) :
    Calls Tryz.prog 27 #[v] w fun e w' => ∃ v', e = .returned v' ∧ AffsOwn w.heap.size w'.heap.size w' v' x ∧ Below w.heap.size w w' :=
  (toAffixS_own w v x h hs).mono fun e w' ⟨h1, h2, h3⟩ => ⟨_, h1, h2, h3⟩
theorem toEntryS_x (w : World) (v : Value) (x : List (ByteArray × ByteArray)) (h : EntsAt w v x) (hs : x.length ≤ 1048576) :
    Calls Tryz.prog 26 #[v] w fun e w' => ∃ v', e = .returned v' ∧ EntsOwn w.heap.size w'.heap.size w' v' x ∧ Below w.heap.size w w' :=
  (toEntryS_own w v x h hs).mono fun e w' ⟨h1, h2, h3⟩ => ⟨_, h1, h2, h3⟩
theorem toStringS_x (w : World) (v : Value) (x : List ByteArray) (h : TextsAt w v x) (hs : x.length ≤ 1048576) :
    Calls Tryz.prog 25 #[v] w fun e w' => ∃ v', e = .returned v' ∧ TextsRow w.heap.size w'.heap.size w' v' x ∧ Below w.heap.size w w' :=
  (toStringS_own w v x h hs).mono fun e w' ⟨h1, h2, h3⟩ => ⟨_, h1, h2, h3⟩
end Go.Proofs.YtcfpbjhfhdcjoaaGreatDoor
