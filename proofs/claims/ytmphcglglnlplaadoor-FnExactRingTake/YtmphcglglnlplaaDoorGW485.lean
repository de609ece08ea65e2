/-
  Turns in the laws: szTurn, toTurn; what a turn taken leaves is small.
-/
import Derived.Test.YtmphcglglnlplaaDoorGW483
import Derived.Test.YtmphcglglnlplaaDoorGW404
namespace Go.Proofs.YtmphcglglnlplaaDoor
open Go.ChangeShapes Go.WideShapes Go.ChangeAt Go.RowKit
set_option linter.unusedVariables false
theorem rtk_small {x : RingM} (t : TurnM) : RingSm (rtkT x t) := by
  cases hok : ringOk x with
  | false =>
    rw [(rtk_no1 t hok).2]
    simp [RingSm]
  | true =>
    have hg : RingGood x := ringOk_good hok
    have h1 := hg.2.1
    have h2 := hg.2.2.1
    unfold rtkT
    rw [hok]
    simp only [if_true]
    split
    · unfold RingSm longT
      simp
      omega
    · unfold RingSm
      omega
theorem wf_bounds484 {n : Int} (h : (Lit.int .i64 n).wf = true) : -9223372036854775808 ≤ n ∧ n ≤ 9223372036854775807 := by
  have e1 : IntKind.i64.min = -9223372036854775808 := by decide
  simp [Lit.wf] at h
  rw [e1] at h
  exact h
theorem nil_no484 {w : World} {q k : Nat} {u : Value} {t : TypeId} (hq : w.heap[q]? = some (.cells #[.slice none 0 0, .slice none 0 0] t (0, 0))) (h : w.cell? ⟨q, k, none⟩ = some u) : u = .slice none 0 0 := by
  rw [cell_of_row _ _ k _ _ _ hq] at h
  match k, h with
  | 0, h => exact (Option.some.inj h).symm
  | 1, h => exact (Option.some.inj h).symm
  | k + 2, h => simp at h
theorem ringAt_setRow484 {w : World} {q : Nat} {v : Value} {x : RingM} {t : TypeId} (h : RingAt w v x) (hq : w.heap[q]? = some (.cells #[.slice none 0 0, .slice none 0 0] t (0, 0))) (cs : Array Value) : RingAt (w.setRow q cs) v x := by
  obtain ⟨va, vn, rfl, ⟨a, cap, hv, hc, hm, hf, hh⟩, ⟨a', cap', hv', hc', hm', hh'⟩⟩ := h
  refine ⟨va, vn, rfl, ⟨a, cap, hv, hc, hm, hf, fun hn => ?_⟩, ⟨a', cap', hv', hc', hm', fun hn => ?_⟩⟩
  · obtain ⟨b, off, ha, hb, hx⟩ := hh hn
    have hne : b ≠ q := by
      rintro rfl
      obtain ⟨y, ys, hy⟩ := List.exists_cons_of_ne_nil hn
      have h9 := nil_no484 hq (hx 0 y (by rw [hy]; rfl))
      cases h9
    exact ⟨b, off, ha, by simpa using hb, fun i y hi => (cell_setRow_other _ _ _ _ hne).trans (hx i y hi)⟩
  · obtain ⟨b, off, ha, hb, hx⟩ := hh' hn
    have hne : b ≠ q := by
      rintro rfl
      obtain ⟨y, ys, hy⟩ := List.exists_cons_of_ne_nil hn
      have h9 := nil_no484 hq (hx 0 y (by rw [hy]; rfl))
      cases h9
    exact ⟨b, off, ha, by simpa using hb, fun i y hi => (cell_setRow_other _ _ _ _ hne).trans (hx i y hi)⟩
set_option maxHeartbeats 1000000 in
theorem szTurn_any (k : ByteArray) (f : Int) (s : ByteArray) (left : Int) (w : World) (hk : k.size ≤ maxLen) (hs : s.size ≤ maxLen) (h0 : 0 ≤ left) (h1 : left ≤ 1048576) :
    Calls Tryd.prog 12 #[.agg #[.string k, .int .i64 f, .string s], .int .i64 left] w fun e w' => (∃ r : Int, e = .returned (.int .i64 r) ∧ r ≤ left ∧ (0 ≤ r → k.size ≤ 1048576 ∧ s.size ≤ 1048576)) ∧ Below w.heap.size w w' := by
  unfold maxLen at hk hs
  by_cases hg : left - (k.size : Int) < 0
  · go_enter Tryd.func12, Tryd.ntmps12
    go_wp2
    go_ret
    exact ⟨⟨_, rfl, by omega, fun h => absurd h (by omega)⟩, (Below.refl _ _).alloc (Nat.le_refl _) _⟩
  · by_cases hg2 : left - (k.size : Int) - (s.size : Int) < 0
    · go_enter Tryd.func12, Tryd.ntmps12
      go_wp2
      go_ret
      exact ⟨⟨_, rfl, by omega, fun h => absurd h (by omega)⟩, (Below.refl _ _).alloc (Nat.le_refl _) _⟩
    · go_enter Tryd.func12, Tryd.ntmps12
      go_wp2
      go_ret
      exact ⟨⟨_, rfl, by omega, fun h => ⟨by omega, by omega⟩⟩, (Below.refl _ _).alloc (Nat.le_refl _) _⟩
set_option maxHeartbeats 1000000 in
theorem toTurn_any (k : ByteArray) (f : Int) (s : ByteArray) (w : World) :
    Calls Tryd.prog 14 #[.agg #[.string k, .int .i64 f, .string s]] w fun e w' => e = .returned (.agg #[.string k, .int .i64 f, .string s]) ∧ Below w.heap.size w w' := by
  go_enter Tryd.func14, Tryd.ntmps14
  go_wp2
  refine bodyPost_ret (v := .agg #[.string k, .int .i64 f, .string s]) (by simp [results, Tryd.results14, go_sem]) rfl ⟨rfl, ?_⟩
  exact (((Below.refl _ _).alloc (Nat.le_refl _) _).alloc (by simp) _).alloc (by simp <;> omega) _
set_option maxRecDepth 100000 in
theorem open_turnV {H : Type} {enc : TypeId × Value → H} {w : World} {r : Reach} {b0 base : Nat} {spare : Nat → Bool} {held : Bool} {v : Value} {d : DataW H} {p : List MemPlace}
    (hv : Value.okWide Tryd.prog w r b0 36 v) (h : DataW.Trod enc Tryd.prog w base spare held 36 v d p) :
    ∃ k f s, v = .agg #[.string k, .int .i64 f, .string s] ∧ k.size ≤ maxLen ∧ (Lit.int .i64 f).wf = true ∧ s.size ≤ maxLen := by
  obtain ⟨cs, rfl, hsz⟩ := okWide_struct Tryd.underlying36 hv
  obtain ⟨c0, c1, c2, rfl⟩ : ∃ a b c, cs = #[a, b, c] := by
    have h2 : cs.size = 3 := hsz.trans (by kernel_rfl)
    obtain ⟨l⟩ := cs
    match l, h2 with
    | [x, y, z], _ => exact ⟨x, y, z, rfl⟩
  obtain ⟨fuel, hf⟩ := h
  obtain ⟨xs, n, rfl, hx, hl, hn, hall⟩ := DataW.trod_struct Tryd.underlying36 hf
  have k0 := hall 0 _ rfl
  have k1 := hall 1 _ rfl
  have k2 := hall 2 _ rfl
  have o0 : Tryd.prog.cellsOf 9 = 1 := by kernel_rfl
  have o1 : Tryd.prog.cellsOf 3 = 1 := by kernel_rfl
  match xs, hn with
  | [y0, y1, y2], _ =>
    simp [Value.cells, o0, o1] at k0 k1 k2
    obtain ⟨sk, e0, -, lk⟩ := DataW.trod_string Tryd.underlying9 k0
    obtain ⟨m, e1, hwf⟩ := DataW.trod_int Tryd.underlying3 k1
    obtain ⟨ss, e2, -, ls⟩ := DataW.trod_string Tryd.underlying9 k2
    simp only [List.cons.injEq, and_true] at e0 e1 e2
    subst e0; subst e1; subst e2
    exact ⟨sk, m, ss, rfl, lk, by first | exact hwf | exact hwf.2 | exact hwf.1 | (simp [Lit.wf]; omega), ls⟩
end Go.Proofs.YtmphcglglnlplaaDoor
/-
  A ring stands beside a row that is written whole.
-/
namespace Go.Proofs.YtmphcglglnlplaaDoor
open Go.RowKit
set_option linter.unusedVariables false
theorem ringOwn_setRow485 {lo hi q : Nat} {w : World} {v : Value} {x : RingM} (h : RingOwn lo hi w v x) (hq : q < lo ∨ hi ≤ q) (cs : Array Value) : RingOwn lo hi (w.setRow q cs) v x := by
  obtain ⟨va, vn, rfl, h1, h2⟩ := h
  exact ⟨va, vn, rfl, textsRow_set483 h1 hq cs, intsRow_set483 h2 hq cs⟩
end Go.Proofs.YtmphcglglnlplaaDoor
