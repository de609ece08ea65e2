/-
  An affix that a law is given, opened: five cells, four of them strings that fit.
-/
import Derived.Test.YtcmajekdalcjeaaGreatGW27
import Derived.WalkKit
import Derived.ProofKit
import Derived.OpenShut
import Derived.ShutString
import Derived.ChangeOld
import Derived.ChangeArms
import Derived.Below
import Derived.Lib.SmallJoins
namespace Go.Proofs.YtcmajekdalcjeaaGreat
open Go.ChangeShapes Go.WideShapes Go.ChangeAt Go.RowKit
set_option linter.unusedVariables false
theorem array5 {α : Type} {cs : Array α} (h : cs.size = 5) : ∃ a b c d e, cs = #[a, b, c, d, e] := by
  obtain ⟨l⟩ := cs
  match l, h with
  | [a, b, c, d, e], _ => exact ⟨a, b, c, d, e, rfl⟩
set_option maxRecDepth 100000 in
theorem open_aff {H : Type} {enc : TypeId × Value → H} {w : World} {r : Reach} {b0 base : Nat} {spare : Nat → Bool} {held : Bool} {v : Value} {d : DataW H} {p : List MemPlace}
    (hv : Value.okWide Tryz.prog w r b0 84 v) (h : DataW.Trod enc Tryz.prog w base spare held 84 v d p) :
    ∃ a : Aff, v = .agg a.cells ∧ a.fits := by
  obtain ⟨cs, rfl, hsz⟩ := okWide_struct Tryz.underlying84 hv
  obtain ⟨c0, c1, c2, c3, c4, rfl⟩ := array5 (hsz.trans (by kernel_rfl))
  obtain ⟨fuel, hf⟩ := h
  obtain ⟨xs, n, rfl, hx, hl, hn, hall⟩ := DataW.trod_struct Tryz.underlying84 hf
  have k0 := hall 0 _ rfl
  have k1 := hall 1 _ rfl
  have k2 := hall 2 _ rfl
  have k3 := hall 3 _ rfl
  have k4 := hall 4 _ rfl
  have o9 : Tryz.prog.cellsOf 9 = 1 := by kernel_rfl
  have ob : Tryz.prog.cellsOf 4 = 1 := by kernel_rfl
  match xs, hn with
  | [y0, y1, y2, y3, y4], _ =>
    simp [Value.cells, o9, ob] at k0 k1 k2 k3 k4
    obtain ⟨s0, e0, -, l0⟩ := DataW.trod_string Tryz.underlying9 k0
    obtain ⟨s1, e1, -⟩ := DataW.trod_bool Tryz.underlying4 k1
    obtain ⟨s2, e2, -, l2⟩ := DataW.trod_string Tryz.underlying9 k2
    obtain ⟨s3, e3, -, l3⟩ := DataW.trod_string Tryz.underlying9 k3
    obtain ⟨s4, e4, -, l4⟩ := DataW.trod_string Tryz.underlying9 k4
    simp only [List.cons.injEq, and_true] at e0 e1 e2 e3 e4
    subst e0; subst e1; subst e2; subst e3; subst e4
    exact ⟨⟨s0, s1, s2, s3, s4⟩, rfl, l0, l2, l3, l4⟩
end Go.Proofs.YtcmajekdalcjeaaGreat
/-
  AffixBack of the model; the laws FnExactAffixDo and FnExactAffixBack.
-/
namespace Go.Proofs.YtcmajekdalcjeaaGreat
open Go.RowKit
set_option linter.unusedVariables false
/-- A stem that an affix leads back to makes the word again, if it is one that the affix may be put to. -/
theorem back_makes {a : Aff} {s : ByteArray} (h : hasT a.front s a.add = true) : swT a.front (swT a.front s a.add a.strip) a.strip a.add = s :=
  (swT_back (q := a.strip) h).1
theorem beq_self_toList (s : ByteArray) : (s.toList == s.toList) = true := by simp
end Go.Proofs.YtcmajekdalcjeaaGreat
