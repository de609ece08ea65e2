/-
  Contracts of copies, marks and what holds them, in one form.
-/
import Derived.Test.YtelpflidgfidcaaW140
namespace Go.Proofs.Ytelpflidgfidcaa
open Go.RowKit
set_option linter.unusedVariables false
theorem markAffixS_x (lo hi k : Nat) (w : World) (v : Value) (x : List Aff) (h : AffsOwn lo hi w v x) (hs : x.length ≤ 1048576) (hk : k ≤ 10000000000) (hlo : hi ≤ w.heap.size) (hlh : lo ≤ hi) :
    Calls Try.prog 17 #[v, .int .i64 k] w fun e w' => e = .returned (.int .i64 ((k + x.length * 5 : Nat) : Int)) ∧ AffsOwn lo hi w' v (marksA k x.length) ∧ Wr lo hi w w' :=
  (markAffixS_any lo hi k w v x.length _ h.1 (by omega) (by omega) (by omega)).mono fun e w' ⟨h1, h2, h3, _⟩ => ⟨h1, h2, h3⟩
end Go.Proofs.Ytelpflidgfidcaa
