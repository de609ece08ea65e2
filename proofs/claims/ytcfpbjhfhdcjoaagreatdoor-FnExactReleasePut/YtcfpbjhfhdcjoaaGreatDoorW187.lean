/-
  A release that a law is given, opened.
-/
import Derived.Test.YtcfpbjhfhdcjoaaGreatDoorW111
import Derived.Test.YtcfpbjhfhdcjoaaGreatDoorW180
namespace Go.Proofs.YtcfpbjhfhdcjoaaGreatDoor
open Go.ChangeShapes Go.WideShapes Go.ChangeAt Go.RowKit
set_option linter.unusedVariables false
set_option maxRecDepth 100000 in
theorem open_releaseV {H : Type} {enc : TypeId × Value → H} {w : World} {r : Reach} {b0 base : Nat} {spare : Nat → Bool} {held : Bool} {v : Value} {d : DataW H} {p : List MemPlace}
    (hv : Value.okWide Tryz.prog w r b0 28 v) (h : DataW.Trod enc Tryz.prog w base spare held 28 v d p) :
    ∃ n vg vc af vl gs es xs su se, v = .agg #[.int .i64 n, vg, vc, .bool af, vl, .string su, .string se] ∧ TextsAt w vg gs ∧ EntsAt w vc es ∧ AffsAt w vl xs ∧ su.size ≤ maxLen ∧ se.size ≤ maxLen := by
  obtain ⟨cs, rfl, hsz⟩ := okWide_struct Tryz.underlying28 hv
  obtain ⟨vn, vg, vc, va, vl, vu, ve, rfl⟩ : ∃ vn vg vc va vl vu ve, cs = #[vn, vg, vc, va, vl, vu, ve] := by
    have h2 : cs.size = 7 := hsz.trans (by kernel_rfl)
    obtain ⟨l⟩ := cs
    match l, h2 with
    | [x0, x1, x2, x3, x4, x5, x6], _ => exact ⟨x0, x1, x2, x3, x4, x5, x6, rfl⟩
  obtain ⟨fuel, hf⟩ := h
  obtain ⟨ys, n, rfl, hx, hl, hn, hall⟩ := DataW.trod_struct Tryz.underlying28 hf
  have k0 := hall 0 _ rfl
  have k1 := hall 1 _ rfl
  have k2 := hall 2 _ rfl
  have k3 := hall 3 _ rfl
  have o0 : Tryz.prog.cellsOf 3 = 1 := by kernel_rfl
  have o1 : Tryz.prog.cellsOf 26 = 4 := by kernel_rfl
  have o2 : Tryz.prog.cellsOf 9 = 1 := by kernel_rfl
  match ys, hn with
  | [y0, y1, y2, y3], _ =>
    simp [Value.cells, o0, o1, o2] at k0 k1 k2 k3
    obtain ⟨m, e0, -⟩ := DataW.trod_int Tryz.underlying3 k0
    obtain ⟨su, e2, -, lu⟩ := DataW.trod_string Tryz.underlying9 k2
    obtain ⟨se, e3, -, le⟩ := DataW.trod_string Tryz.underlying9 k3
    simp only [List.cons.injEq, and_true] at e0 e2 e3
    subst e0; subst e2; subst e3
    obtain ⟨zs, n2, rfl, hx2, hl2, hn2, hall2⟩ := DataW.trod_struct Tryz.underlying26 k1
    have q0 := hall2 0 _ rfl
    have q1 := hall2 1 _ rfl
    have q2 := hall2 2 _ rfl
    have q3 := hall2 3 _ rfl
    have p1 : Tryz.prog.cellsOf 22 = 1 := by kernel_rfl
    have p2 : Tryz.prog.cellsOf 23 = 1 := by kernel_rfl
    have p3 : Tryz.prog.cellsOf 4 = 1 := by kernel_rfl
    have p4 : Tryz.prog.cellsOf 24 = 1 := by kernel_rfl
    match zs, hn2 with
    | [z0, z1, z2, z3], _ =>
      simp [p1, p2, p3, p4] at q0 q1 q2 q3
      obtain ⟨gs, hgs⟩ := open_texts q0
      obtain ⟨es, hes⟩ := open_ents q1
      obtain ⟨xs, hxs⟩ := open_affs q3
      obtain ⟨af, haf, -⟩ := DataW.trod_bool Tryz.underlying4 q2
      simp only [List.cons.injEq, and_true] at haf
      subst haf
      exact ⟨m, vg, vc, af, vl, gs, es, xs, su, se, rfl, hgs, hes, hxs, lu, le⟩
end Go.Proofs.YtcfpbjhfhdcjoaaGreatDoor
