/-
  States and edges in memory.
-/
import Derived.Test.YtpjkgpglbbppjaaProg
import Derived.Test.YtpjkgpglbbppjaaM20
import Derived.WalkKit
import Derived.WalkSpells
import Derived.WalkLawsBesides
import Derived.Lib.SmallJoins
import Derived.Deep.WholeRow
import Derived.Deep.RegionHeld3
import Derived.Deep.OwnRows
import Derived.Deep.SlicePairs
namespace Go.Proofs.Ytpjkgpglbbppjaa
open Go.RowKit
set_option linter.unusedVariables false
/-- A slice of edges, from block lo on. -/
def EdgesIn (lo : Nat) (w : World) (v : Value) (es : List (Int × Int)) : Prop :=
  ∃ a cap, v = .slice a es.length cap ∧ es.length ≤ cap ∧ cap ≤ maxLen ∧
    (es ≠ [] → ∃ b off, a = some ⟨b, off, none⟩ ∧ lo ≤ b ∧ b < w.heap.size ∧ ∀ i e, es[i]? = some e → w.cell? ⟨b, off + i * 2, none⟩ = some (.int .i64 e.1) ∧ w.cell? ⟨b, off + i * 2 + 1, none⟩ = some (.int .i64 e.2))
/-- A slice of states. -/
def StatesAt (w : World) (v : Value) (ss : List Sta) : Prop :=
  ∃ a cap, v = .slice a ss.length cap ∧ ss.length ≤ cap ∧ cap ≤ maxLen ∧
    (ss ≠ [] → ∃ b off, a = some ⟨b, off, none⟩ ∧ b < w.heap.size ∧ ∀ i s, ss[i]? = some s → w.cell? ⟨b, off + i * 2, none⟩ = some (.bool s.ends) ∧ ∃ ev, w.cell? ⟨b, off + i * 2 + 1, none⟩ = some ev ∧ EdgesIn 0 w ev s.es)
theorem EdgesIn.lower {lo lo' : Nat} {w : World} {v : Value} {es : List (Int × Int)} (h : EdgesIn lo w v es) (hl : lo' ≤ lo) : EdgesIn lo' w v es := by
  obtain ⟨a, cap, hv, hc, hm, hh⟩ := h
  exact ⟨a, cap, hv, hc, hm, fun hn => let ⟨b, off, ha, h1, h2, h3⟩ := hh hn; ⟨b, off, ha, by omega, h2, h3⟩⟩
theorem EdgesIn.below {lo : Nat} {w w' : World} {v : Value} {es : List (Int × Int)} (h : EdgesIn lo w v es) (hb : Below w.heap.size w w') : EdgesIn lo w' v es := by
  obtain ⟨a, cap, hv, hc, hm, hh⟩ := h
  refine ⟨a, cap, hv, hc, hm, fun hn => ?_⟩
  obtain ⟨b, off, ha, h1, h2, h3⟩ := hh hn
  refine ⟨b, off, ha, h1, Nat.lt_of_lt_of_le h2 hb.size, fun i e he => ?_⟩
  obtain ⟨c1, c2⟩ := h3 i e he
  exact ⟨(hb.cell (p := ⟨b, off + i * 2, none⟩) h2).trans c1, (hb.cell (p := ⟨b, off + i * 2 + 1, none⟩) h2).trans c2⟩
/-- A store into a block ahead of lo. -/
theorem EdgesIn.set {lo : Nat} {w : World} {v : Value} {es : List (Int × Int)} (h : EdgesIn lo w v es) {p : Addr} (hp : p.block < lo) (u : Value) : EdgesIn lo (w.setCell p u) v es := by
  obtain ⟨a, cap, hv, hc, hm, hh⟩ := h
  refine ⟨a, cap, hv, hc, hm, fun hn => ?_⟩
  obtain ⟨b, off, ha, h1, h2, h3⟩ := hh hn
  refine ⟨b, off, ha, h1, by simpa [World.setCell] using h2, fun i e he => ?_⟩
  have hne : b ≠ p.block := by omega
  have e1 := Below.heap_setCell w p u b hne
  obtain ⟨c1, c2⟩ := h3 i e he
  exact ⟨(World.cell?_of_block (w := w) (a := ⟨b, off + i * 2, none⟩) e1).trans c1, (World.cell?_of_block (w := w) (a := ⟨b, off + i * 2 + 1, none⟩) e1).trans c2⟩
theorem StatesAt.below {w w' : World} {v : Value} {ss : List Sta} (h : StatesAt w v ss) (hb : Below w.heap.size w w') : StatesAt w' v ss := by
  obtain ⟨a, cap, hv, hc, hm, hh⟩ := h
  refine ⟨a, cap, hv, hc, hm, fun hn => ?_⟩
  obtain ⟨b, off, ha, h2, h3⟩ := hh hn
  refine ⟨b, off, ha, Nat.lt_of_lt_of_le h2 hb.size, fun i e he => ?_⟩
  obtain ⟨c1, ev, c2, hev⟩ := h3 i e he
  exact ⟨(hb.cell (p := ⟨b, off + i * 2, none⟩) h2).trans c1, ev, (hb.cell (p := ⟨b, off + i * 2 + 1, none⟩) h2).trans c2, hev.below hb⟩
theorem ne_nil_of_at {α : Type} {l : List α} {i : Nat} {x : α} (h : l[i]? = some x) : l ≠ [] := by rintro rfl; simp at h
/-- The edge at a place, opened. -/
theorem EdgesIn.at {lo : Nat} {w : World} {v : Value} {es : List (Int × Int)} (h : EdgesIn lo w v es) {k : Nat} (hk : k < es.length) :
    ∃ b off cap e, v = .slice (some ⟨b, off, none⟩) es.length cap ∧ es.length ≤ cap ∧ cap ≤ maxLen ∧ b < w.heap.size ∧ es[k]? = some e ∧ w.cell? ⟨b, off + k * 2, none⟩ = some (.int .i64 e.1) ∧ w.cell? ⟨b, off + k * 2 + 1, none⟩ = some (.int .i64 e.2) := by
  obtain ⟨a, cap, hv, hc, hm, hh⟩ := h
  have he := List.getElem?_eq_getElem hk
  obtain ⟨b, off, rfl, h1, h2, h3⟩ := hh (ne_nil_of_at he)
  exact ⟨b, off, cap, _, hv, hc, hm, h2, he, h3 k _ he⟩
/-- The state at a place, opened. -/
theorem StatesAt.at {w : World} {v : Value} {ss : List Sta} (h : StatesAt w v ss) {k : Nat} (hk : k < ss.length) :
    ∃ b off cap s ev, v = .slice (some ⟨b, off, none⟩) ss.length cap ∧ ss.length ≤ cap ∧ cap ≤ maxLen ∧ b < w.heap.size ∧ ss[k]? = some s ∧ w.cell? ⟨b, off + k * 2, none⟩ = some (.bool s.ends) ∧ w.cell? ⟨b, off + k * 2 + 1, none⟩ = some ev ∧ EdgesIn 0 w ev s.es := by
  obtain ⟨a, cap, hv, hc, hm, hh⟩ := h
  have he := List.getElem?_eq_getElem hk
  obtain ⟨b, off, rfl, h2, h3⟩ := hh (ne_nil_of_at he)
  obtain ⟨c1, ev, c2, hev⟩ := h3 k _ he
  exact ⟨b, off, cap, _, ev, hv, hc, hm, h2, he, c1, c2, hev⟩
theorem EdgesIn.form {lo : Nat} {w : World} {v : Value} {es : List (Int × Int)} (h : EdgesIn lo w v es) : ∃ a cap, v = .slice a es.length cap ∧ es.length ≤ cap ∧ cap ≤ maxLen := by
  obtain ⟨a, cap, hv, hc, hm, hh⟩ := h
  exact ⟨a, cap, hv, hc, hm⟩
theorem StatesAt.form {w : World} {v : Value} {ss : List Sta} (h : StatesAt w v ss) : ∃ a cap, v = .slice a ss.length cap ∧ ss.length ≤ cap ∧ cap ≤ maxLen := by
  obtain ⟨a, cap, hv, hc, hm, hh⟩ := h
  exact ⟨a, cap, hv, hc, hm⟩
end Go.Proofs.Ytpjkgpglbbppjaa
