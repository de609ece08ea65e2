/-
  A book that a law is given, opened.
-/
import Derived.Test.YthedglgljehmgaaGreatDoorW70
import Derived.Deep.SlicePairs
import Derived.WalkKit
import Derived.ProofKit
import Derived.OpenShut
import Derived.ShutString
import Derived.ChangeOld
import Derived.ChangeArms
namespace Go.Proofs.YthedglgljehmgaaGreatDoor
open Go.ChangeShapes Go.WideShapes Go.ChangeAt Go.RowKit
set_option linter.unusedVariables false
theorem cell_lt71 {w : World} {a : Addr} {v : Value} (h : w.cell? a = some v) : a.block < w.heap.size ∧ a.spot = none := by
  unfold World.cell? at h
  split at h
  · rename_i c _ _ hb
    constructor
    · rcases Nat.lt_or_ge a.block w.heap.size with hlt | hge
      · exact hlt
      · rw [Array.getElem?_eq_none hge] at hb; cases hb
    · split at h
      · cases h
      · rename_i hs; simpa using hs
  · cases h
theorem add_at71 (b o j : Nat) : (⟨b, o, none⟩ : Addr).add j = ⟨b, o + j, none⟩ := by unfold Addr.add; split <;> simp_all
theorem range_map_at71 {α : Type} {n : Nat} {f : Nat → α} {i : Nat} {x : α} (h : ((List.range n).map f)[i]? = some x) : i < n ∧ x = f i := by
  have hi := (List.getElem?_eq_some_iff.1 h).1
  simp at hi
  rw [List.getElem?_map, List.getElem?_range hi] at h
  exact ⟨hi, by simpa using h.symm⟩
instance : Inhabited Aff := ⟨⟨.empty, false, .empty, .empty, .empty⟩⟩
set_option maxRecDepth 100000 in
theorem open_ents {H : Type} {enc : TypeId × Value → H} {w : World} {base : Nat} {spare : Nat → Bool} {held : Bool} {fuel : Nat} {v : Value} {x : DataW H × List MemPlace}
    (h : DataW.trod enc Tryz.prog w base spare held fuel 37 [v] = some x) : ∃ es, EntsAt w v es := by
  rcases Go.Deep.open_slice_pairs Tryz.underlying37 Tryz.underlying103 (by kernel_rfl) rfl rfl (by kernel_rfl) (by kernel_rfl) h with ⟨h0, _⟩ | ⟨a, len, cap, m, n, V0, V1, D0, D1, P0, P1, hcs, hb, hl, hm, hmm, _, hall⟩
  · simp at h0; subst h0
    exact ⟨[], none, 0, rfl, Nat.le_refl _, Nat.zero_le _, fun i x hx => by simp at hx, fun hn => absurd rfl hn⟩
  · simp at hcs; subst hcs
    have hlm : len ≤ m := by rw [hmm]; split <;> omega
    obtain ⟨q, hq⟩ := Go.Deep.choose_lt (α := ByteArray × ByteArray) (n := len) (p := fun i e => (w.cell? (a.add (i * 2)) = some (.string e.1) ∧ w.cell? (a.add (i * 2 + 1)) = some (.string e.2)) ∧ e.1.size ≤ maxLen ∧ e.2.size ≤ maxLen) (fun i hi => by
      obtain ⟨c0, c1, t0, t1⟩ := hall i (by omega)
      obtain ⟨z0, e0, -, l0⟩ := DataW.trod_string Tryz.underlying9 t0
      obtain ⟨z1, e1, -, l1⟩ := DataW.trod_string Tryz.underlying9 t1
      simp only [List.cons.injEq, and_true] at e0 e1
      exact ⟨(z0, z1), ⟨by rw [c0, e0], by rw [c1, e1]⟩, l0, l1⟩)
    refine ⟨(List.range len).map q, some a, cap, by simp, by simpa using hl, hm, fun i x hx => ?_, fun hn => ?_⟩
    · obtain ⟨hi, rfl⟩ := range_map_at71 hx
      exact (hq i hi).2
    have hpos : 0 < len := by
      rcases Nat.eq_zero_or_pos len with h0 | h0
      · subst h0; simp at hn
      · exact h0
    have c0 := (hq 0 hpos).1.1
    have ha : a.add (0 * 2) = a := by simp [Addr.add]
    rw [ha] at c0
    obtain ⟨hlt, hs⟩ := cell_lt71 c0
    obtain ⟨b, off, sp⟩ := a
    simp only at hs hlt
    subst hs
    refine ⟨b, off, rfl, hlt, fun i e he => ?_⟩
    obtain ⟨hi, rfl⟩ := range_map_at71 he
    have := (hq i hi).1
    rwa [add_at71, add_at71, ← Nat.add_assoc] at this
set_option maxRecDepth 100000 in
theorem open_affs {H : Type} {enc : TypeId × Value → H} {w : World} {base : Nat} {spare : Nat → Bool} {held : Bool} {fuel : Nat} {v : Value} {x : DataW H × List MemPlace}
    (h : DataW.trod enc Tryz.prog w base spare held fuel 36 [v] = some x) : ∃ xs, AffsAt w v xs := by
  have ce : Tryz.prog.cellsOf 101 = 5 := by kernel_rfl
  have o9 : Tryz.prog.cellsOf 9 = 1 := by kernel_rfl
  have ob : Tryz.prog.cellsOf 4 = 1 := by kernel_rfl
  rcases Go.Deep.open_slice Tryz.underlying36 h with ⟨h0, _⟩ | ⟨a, len, cap, m, n, D, Pl, hcs, hb, hl, hm, hmm, _, hall⟩
  · simp at h0; subst h0
    exact ⟨[], none, 0, rfl, Nat.le_refl _, Nat.zero_le _, fun i x hx => by simp at hx, fun hn => absurd rfl hn⟩
  · simp at hcs; subst hcs
    have hlm : len ≤ m := by rw [hmm]; split <;> omega
    obtain ⟨q, hq⟩ := Go.Deep.choose_lt (α := Aff) (n := len) (p := fun i e => (w.cell? (a.add (i * 5)) = some (.string e.flag) ∧ w.cell? (a.add (i * 5 + 1)) = some (.bool e.front) ∧ w.cell? (a.add (i * 5 + 2)) = some (.string e.strip) ∧ w.cell? (a.add (i * 5 + 3)) = some (.string e.add) ∧ w.cell? (a.add (i * 5 + 4)) = some (.string e.wh)) ∧ e.fits) (fun i hi => by
      obtain ⟨cs', h1, h2⟩ := hall i (by omega)
      rw [ce] at h1
      obtain ⟨_, hlen, hcell⟩ := World.cells?_some h1
      obtain ⟨ys, k, hk, hxy, _, hxl, hf⟩ := DataW.trod_struct Tryz.underlying101 h2
      match ys, hxl, cs', hlen with
      | [y0, y1, y2, y3, y4], _, [v0, v1, v2, v3, v4], _ =>
        have k0 := hf 0 _ rfl
        have k1 := hf 1 _ rfl
        have k2 := hf 2 _ rfl
        have k3 := hf 3 _ rfl
        have k4 := hf 4 _ rfl
        simp [o9, ob] at k0 k1 k2 k3 k4
        obtain ⟨s0, e0, -, l0⟩ := DataW.trod_string Tryz.underlying9 k0
        obtain ⟨s1, e1, -⟩ := DataW.trod_bool Tryz.underlying4 k1
        obtain ⟨s2, e2, -, l2⟩ := DataW.trod_string Tryz.underlying9 k2
        obtain ⟨s3, e3, -, l3⟩ := DataW.trod_string Tryz.underlying9 k3
        obtain ⟨s4, e4, -, l4⟩ := DataW.trod_string Tryz.underlying9 k4
        simp only [List.cons.injEq, and_true] at e0 e1 e2 e3 e4
        subst e0; subst e1; subst e2; subst e3; subst e4
        have q0 := hcell 0 (by omega)
        have q1 := hcell 1 (by omega)
        have q2 := hcell 2 (by omega)
        have q3 := hcell 3 (by omega)
        have q4 := hcell 4 (by omega)
        rw [Go.Deep.add_add] at q0 q1 q2 q3 q4
        exact ⟨⟨s0, s1, s2, s3, s4⟩, ⟨by simpa using q0, by simpa using q1, by simpa using q2, by simpa using q3, by simpa using q4⟩, l0, l2, l3, l4⟩)
    refine ⟨(List.range len).map q, some a, cap, by simp, by simpa using hl, hm, fun i x hx => ?_, fun hn => ?_⟩
    · obtain ⟨hi, rfl⟩ := range_map_at71 hx
      exact (hq i hi).2
    have hpos : 0 < len := by
      rcases Nat.eq_zero_or_pos len with h0 | h0
      · subst h0; simp at hn
      · exact h0
    have c0 := (hq 0 hpos).1.1
    have ha : a.add (0 * 5) = a := by simp [Addr.add]
    rw [ha] at c0
    obtain ⟨hlt, hs⟩ := cell_lt71 c0
    obtain ⟨b, off, sp⟩ := a
    simp only at hs hlt
    subst hs
    refine ⟨b, off, rfl, hlt, fun i e he => ?_⟩
    obtain ⟨hi, rfl⟩ := range_map_at71 he
    obtain ⟨c0, c1, c2, c3, c4⟩ := (hq i hi).1
    rw [add_at71] at c0 c1 c2 c3 c4
    exact ⟨c0, by rw [Nat.add_assoc]; exact c1, by rw [Nat.add_assoc]; exact c2, by rw [Nat.add_assoc]; exact c3, by rw [Nat.add_assoc]; exact c4⟩
set_option maxRecDepth 100000 in
theorem open_book {H : Type} {enc : TypeId × Value → H} {w : World} {r : Reach} {b0 base : Nat} {spare : Nat → Bool} {held : Bool} {v : Value} {d : DataW H} {p : List MemPlace}
    (hv : Value.okWide Tryz.prog w r b0 39 v) (h : DataW.Trod enc Tryz.prog w base spare held 39 v d p) :
    ∃ va ve xs es, v = .agg #[va, ve] ∧ AffsAt w va xs ∧ EntsAt w ve es := by
  obtain ⟨cs, rfl, hsz⟩ := okWide_struct Tryz.underlying39 hv
  obtain ⟨va, ve, rfl⟩ : ∃ va ve, cs = #[va, ve] := by
    have h2 : cs.size = 2 := hsz.trans (by kernel_rfl)
    obtain ⟨l⟩ := cs
    match l, h2 with
    | [x, y], _ => exact ⟨x, y, rfl⟩
  obtain ⟨fuel, hf⟩ := h
  obtain ⟨ys, n, rfl, hx, hl, hn, hall⟩ := DataW.trod_struct Tryz.underlying39 hf
  have k0 := hall 0 _ rfl
  have k1 := hall 1 _ rfl
  have oa : Tryz.prog.cellsOf 36 = 1 := by kernel_rfl
  have oe : Tryz.prog.cellsOf 37 = 1 := by kernel_rfl
  match ys, hn with
  | [y0, y1], _ =>
    simp [Value.cells, oa, oe] at k0 k1
    obtain ⟨xs, hxs⟩ := open_affs k0
    obtain ⟨es, hes⟩ := open_ents k1
    exact ⟨va, ve, xs, es, rfl, hxs, hes⟩
end Go.Proofs.YthedglgljehmgaaGreatDoor
