/-
  States held against each other: eqEdge, eqEdgeS, eqState, eqStateS, where both are the same.
-/
import Derived.Test.YtbkjbkdmanaohaaGW43
import Derived.Deep.RegionWith
namespace Go.Proofs.Ytbkjbkdmanaohaa
open Go.RowKit
set_option linter.unusedVariables false
set_option maxHeartbeats 1000000 in
theorem eqEdge_same (x y : Int) (w : World) :
    Calls Try.prog 63 #[.agg #[.int .i64 x, .int .i64 y], .agg #[.int .i64 x, .int .i64 y]] w fun e w' => e = .returned (.bool true) ∧ Below w.heap.size w w' := by
  go_enter Try.func63, Try.ntmps63
  go_wp2
  go_ret
  exact ⟨rfl, ((Below.refl _ _).alloc (Nat.le_refl _) _).alloc (by simp) _⟩
set_option maxHeartbeats 1000000 in
theorem eqEdgeS_same (w : World) (v u : Value) (es : List (Int × Int)) (h : EdgesIn 0 w v es) (h' : EdgesIn 0 w u es) :
    Calls Try.prog 53 #[v, u] w fun e w' => e = .returned (.bool true) ∧ Below w.heap.size w w' := by
  obtain ⟨a, cap, rfl, hc, hm⟩ := h.form
  obtain ⟨a', cap', rfl, hc', hm'⟩ := h'.form
  have HS : Hid (EdgesIn 0 w (.slice a es.length cap) es) := h
  have HS' : Hid (EdgesIn 0 w (.slice a' es.length cap') es) := h'
  clear h h'
  unfold maxLen at hm hm'
  go_enter Try.func53, Try.ntmps53
  go_wp2
  go_loopw [5] (fun i wr => ∃ (k : Nat), k ≤ es.length ∧ i = .int .i64 k ∧ Below w.heap.size w wr) (fun i _ => es.length - (intOf i).toNat)
  case atStart => exact ⟨0, Nat.zero_le _, rfl, Below.refl _ _⟩
  case round =>
    obtain ⟨k, hk, rfl, hb⟩ := hrel
    have HB : Hid (Below w.heap.size w wr) := hb
    clear hb
    by_cases hlt : k < es.length
    · obtain ⟨b, off, cap1, s, hv, _, _, hbl, hs, c1, c2⟩ := (HS.out.below HB.out).at hlt
      cases hv
      obtain ⟨b', off', cap2, s', hv', _, _, hbl', hs', c1', c2'⟩ := (HS'.out.below HB.out).at hlt
      cases hv'
      rw [hs] at hs'
      cases hs'
      clear hs
      go_wp2_with fail
      go_region_with (go_at_call 63; refine (eqEdge_same _ _ _).mono ?_; rintro e w' ⟨rfl, hb'⟩; have HB' : Hid (Below w.heap.size w w') := HB.out.drew.trans (hb'.mono HB.out.size); clear hb')
      all_goals
        go_wp2
        go_roundw
        case rel => exact ⟨k + 1, by omega, by go_num, HB'.out⟩
        case measure => simp [intOf]; omega
    · go_wp2
      go_ret
      exact ⟨rfl, HB.out⟩
set_option maxHeartbeats 1000000 in
theorem eqState_same (w : World) (b : Bool) (v u : Value) (es : List (Int × Int)) (h : EdgesIn 0 w v es) (h' : EdgesIn 0 w u es) :
    Calls Try.prog 31 #[.agg #[.bool b, v], .agg #[.bool b, u]] w fun e w' => e = .returned (.bool true) ∧ Below w.heap.size w w' := by
  obtain ⟨a, cap, rfl, hc, hm⟩ := h.form
  obtain ⟨a', cap', rfl, hc', hm'⟩ := h'.form
  have HS : Hid (EdgesIn 0 w (.slice a es.length cap) es) := h
  have HS' : Hid (EdgesIn 0 w (.slice a' es.length cap') es) := h'
  clear h h'
  go_enter Try.func31, Try.ntmps31
  go_wp2_with fail
  refine (eqEdgeS_same _ _ _ es (HS.out.below ?b1) (HS'.out.below ?b1)).mono ?_
  case b1 => exact ((Below.refl _ _).alloc (Nat.le_refl _) _).alloc (by simp) _
  rintro e w' ⟨rfl, hb'⟩
  have HB : Hid (Below w.heap.size w w') := Below.trans (((Below.refl _ _).alloc (Nat.le_refl _) _).alloc (by simp) _) (hb'.mono (by simp <;> omega))
  clear hb'
  go_wp2
  go_ret
  exact ⟨rfl, HB.out⟩
set_option maxHeartbeats 1000000 in
theorem eqStateS_same (w : World) (v u : Value) (ss : List Sta) (h : StatesAt w v ss) (h' : StatesAt w u ss) :
    Calls Try.prog 12 #[v, u] w fun e w' => e = .returned (.bool true) ∧ Below w.heap.size w w' := by
  obtain ⟨a, cap, rfl, hc, hm⟩ := h.form
  obtain ⟨a', cap', rfl, hc', hm'⟩ := h'.form
  have HS : Hid (StatesAt w (.slice a ss.length cap) ss) := h
  have HS' : Hid (StatesAt w (.slice a' ss.length cap') ss) := h'
  clear h h'
  unfold maxLen at hm hm'
  go_enter Try.func12, Try.ntmps12
  go_wp2
  go_loopw [5] (fun i wr => ∃ (k : Nat), k ≤ ss.length ∧ i = .int .i64 k ∧ Below w.heap.size w wr) (fun i _ => ss.length - (intOf i).toNat)
  case atStart => exact ⟨0, Nat.zero_le _, rfl, Below.refl _ _⟩
  case round =>
    obtain ⟨k, hk, rfl, hb⟩ := hrel
    have HB : Hid (Below w.heap.size w wr) := hb
    clear hb
    by_cases hlt : k < ss.length
    · obtain ⟨b, off, cap1, s, ev, hv, _, _, hbl, hs, c1, c2, hev⟩ := (HS.out.below HB.out).at hlt
      cases hv
      obtain ⟨b', off', cap2, s', ev', hv', _, _, hbl', hs', c1', c2', hev'⟩ := (HS'.out.below HB.out).at hlt
      cases hv'
      rw [hs] at hs'
      cases hs'
      have HE : Hid (EdgesIn 0 wr ev s.es) := hev
      have HE' : Hid (EdgesIn 0 wr ev' s.es) := hev'
      clear hs hev hev'
      go_wp2_with fail
      go_region_with (go_at_call 31; refine (eqState_same _ _ _ _ s.es (by exact HE.out.below (by repeat (first | exact Below.refl _ _ | refine Below.drew ?_))) (by exact HE'.out.below (by repeat (first | exact Below.refl _ _ | refine Below.drew ?_)))).mono ?_; rintro e w' ⟨rfl, hb'⟩; have HB' : Hid (Below w.heap.size w w') := HB.out.drew.trans (hb'.mono HB.out.size); clear hb')
      all_goals
        go_wp2
        go_roundw
        case rel => exact ⟨k + 1, by omega, by go_num, HB'.out⟩
        case measure => simp [intOf]; omega
    · go_wp2
      go_ret
      exact ⟨rfl, HB.out⟩
end Go.Proofs.Ytbkjbkdmanaohaa
