/-
  Arguments of laws, opened: slices of affixes, of texts; an entry.
-/
import Derived.Test.YtcfpbjhfhdcjoaaGreatDoorW71
import Derived.Test.YtcfpbjhfhdcjoaaGreatDoorW110
import Derived.WalkKit
import Derived.ProofKit
import Derived.OpenShut
import Derived.ShutString
import Derived.ChangeOld
import Derived.Below
namespace Go.Proofs.YtcfpbjhfhdcjoaaGreatDoor
open Go.ChangeShapes Go.WideShapes Go.ChangeAt Go.RowKit
set_option linter.unusedVariables false
set_option maxRecDepth 100000 in
theorem open_affsV {H : Type} {enc : TypeId × Value → H} {w : World} {r : Reach} {b0 base : Nat} {spare : Nat → Bool} {held : Bool} {v : Value} {d : DataW H} {p : List MemPlace}
    (hv : Value.okWide Tryz.prog w r b0 24 v) (h : DataW.Trod enc Tryz.prog w base spare held 24 v d p) : ∃ xs, AffsAt w v xs := by
  obtain ⟨a0, len0, cap0, rfl⟩ := okWide_slice Tryz.underlying24 hv
  obtain ⟨fuel, hf⟩ := h
  exact open_affs (by simpa [Value.cells] using hf)
set_option maxRecDepth 100000 in
theorem open_textsV {H : Type} {enc : TypeId × Value → H} {w : World} {r : Reach} {b0 base : Nat} {spare : Nat → Bool} {held : Bool} {v : Value} {d : DataW H} {p : List MemPlace}
    (hv : Value.okWide Tryz.prog w r b0 22 v) (h : DataW.Trod enc Tryz.prog w base spare held 22 v d p) : ∃ xs, TextsAt w v xs := by
  obtain ⟨a0, len0, cap0, rfl⟩ := okWide_slice Tryz.underlying22 hv
  obtain ⟨fuel, hf⟩ := h
  exact open_texts (by simpa [Value.cells] using hf)
set_option maxRecDepth 100000 in
theorem open_entryV {H : Type} {enc : TypeId × Value → H} {w : World} {r : Reach} {b0 base : Nat} {spare : Nat → Bool} {held : Bool} {v : Value} {d : DataW H} {p : List MemPlace}
    (hv : Value.okWide Tryz.prog w r b0 63 v) (h : DataW.Trod enc Tryz.prog w base spare held 63 v d p) :
    ∃ st fl, v = .agg #[.string st, .string fl] ∧ st.size ≤ maxLen ∧ fl.size ≤ maxLen := by
  obtain ⟨cs, rfl, hsz⟩ := okWide_struct Tryz.underlying63 hv
  obtain ⟨c0, c1, rfl⟩ : ∃ va ve, cs = #[va, ve] := by
    have h2 : cs.size = 2 := hsz.trans (by kernel_rfl)
    obtain ⟨l⟩ := cs
    match l, h2 with
    | [x, y], _ => exact ⟨x, y, rfl⟩
  obtain ⟨fuel, hf⟩ := h
  obtain ⟨xs, n, rfl, hx, hl, hn, hall⟩ := DataW.trod_struct Tryz.underlying63 hf
  have k0 := hall 0 _ rfl
  have k1 := hall 1 _ rfl
  have o9 : Tryz.prog.cellsOf 9 = 1 := by kernel_rfl
  match xs, hn with
  | [y0, y1], _ =>
    simp [Value.cells, o9] at k0 k1
    obtain ⟨s0, e0, -, l0⟩ := DataW.trod_string Tryz.underlying9 k0
    obtain ⟨s1, e1, -, l1⟩ := DataW.trod_string Tryz.underlying9 k1
    simp only [List.cons.injEq, and_true] at e0 e1
    subst e0; subst e1
    exact ⟨s0, s1, rfl, l0, l1⟩
end Go.Proofs.YtcfpbjhfhdcjoaaGreatDoor
