/-
  States handed over: szEdgeS, szState, szStateS, toEdge.
-/
import Derived.Test.YtpjkgpglbbppjaaW40
namespace Go.Proofs.Ytpjkgpglbbppjaa
open Go.RowKit
set_option linter.unusedVariables false
set_option maxHeartbeats 1000000 in
theorem szEdgeS_any (w : World) (v : Value) (es : List (Int × Int)) (left : Int) (h : EdgesIn 0 w v es) (h0 : 0 ≤ left) (h1 : left ≤ 1048576) :
    Calls Try.prog 25 #[v, .int .i64 left] w fun e w' => (∃ r : Int, e = .returned (.int .i64 r) ∧ r ≤ left ∧ (0 ≤ r → es.length ≤ 1048576)) ∧ w' = w := by
  obtain ⟨a, cap, rfl, hc, hm⟩ := h.form
  clear h
  unfold maxLen at hm
  by_cases hl : left - es.length < 0
  · go_enter Try.func25, Try.ntmps25
    go_wp2
    go_ret
    exact ⟨⟨-1, rfl, by omega, by omega⟩, rfl⟩
  · go_enter Try.func25, Try.ntmps25
    go_wp2
    go_ret
    exact ⟨⟨_, rfl, by omega, by omega⟩, rfl⟩
set_option maxHeartbeats 1000000 in
theorem szState_any (w : World) (b : Bool) (v : Value) (es : List (Int × Int)) (left : Int) (h : EdgesIn 0 w v es) (h0 : 0 ≤ left) (h1 : left ≤ 1048576) :
    Calls Try.prog 13 #[.agg #[.bool b, v], .int .i64 left] w fun e w' => (∃ r : Int, e = .returned (.int .i64 r) ∧ r ≤ left ∧ (0 ≤ r → es.length ≤ 1048576)) ∧ Below w.heap.size w w' := by
  obtain ⟨a, cap, rfl, hc, hm⟩ := h.form
  have HE : Hid (EdgesIn 0 w (.slice a es.length cap) es) := h
  clear h
  go_enter Try.func13, Try.ntmps13
  go_wp2_with fail
  refine (szEdgeS_any _ _ es _ (HE.out.below ((Below.refl _ _).alloc (Nat.le_refl _) _)) (by omega) (by omega)).mono ?_
  rintro e w' ⟨⟨r, rfl, hr1, hr2⟩, rfl⟩
  have HR : Hid (0 ≤ r → es.length ≤ 1048576) := hr2
  clear hr2
  by_cases hr : r < 0
  · go_wp2
    go_ret
    exact ⟨⟨-1, rfl, by omega, by omega⟩, (Below.refl _ _).alloc (Nat.le_refl _) _⟩
  · go_wp2
    go_ret
    exact ⟨⟨r, rfl, by omega, HR.out⟩, (Below.refl _ _).alloc (Nat.le_refl _) _⟩
set_option maxHeartbeats 1000000 in
theorem szStateS_any (w : World) (v : Value) (ss : List Sta) (left : Int) (h : StatesAt w v ss) (h0 : 0 ≤ left) (h1 : left ≤ 1048576) :
    Calls Try.prog 4 #[v, .int .i64 left] w fun e w' => (∃ r : Int, e = .returned (.int .i64 r) ∧ (0 ≤ r → SmallS ss)) ∧ Below w.heap.size w w' := by
  obtain ⟨a, cap, rfl, hc, hm⟩ := h.form
  have HS : Hid (StatesAt w (.slice a ss.length cap) ss) := h
  clear h
  unfold maxLen at hm
  by_cases hl : left - ss.length < 0
  · go_enter Try.func4, Try.ntmps4
    go_wp2
    go_ret
    exact ⟨⟨-1, rfl, by omega⟩, Below.refl _ _⟩
  · go_enter Try.func4, Try.ntmps4
    go_wp2
    go_loopw [1, 5] (fun l i wr => ∃ (k : Nat) (r : Int), k ≤ ss.length ∧ i = .int .i64 k ∧ l = .int .i64 r ∧ 0 ≤ r ∧ r ≤ 1048576 ∧ (∀ (j : Nat) (s : Sta), j < k → ss[j]? = some s → s.es.length ≤ 1048576) ∧ Below w.heap.size w wr) (fun _ i _ => ss.length - (intOf i).toNat)
    case atStart => exact ⟨0, _, Nat.zero_le _, rfl, rfl, by omega, by omega, fun j s hj => absurd hj (by omega), Below.refl _ _⟩
    case round =>
      obtain ⟨k, r, hk, rfl, rfl, hr0, hr1, hall, hb⟩ := hrel
      have HA : Hid (∀ (j : Nat) (s : Sta), j < k → ss[j]? = some s → s.es.length ≤ 1048576) := hall
      have HB : Hid (Below w.heap.size w wr) := hb
      clear hall hb
      by_cases hlt : k < ss.length
      · obtain ⟨b, off, cap', s, ev, hv, _, _, hbl, hs, c1, c2, hev⟩ := (HS.out.below HB.out).at hlt
        cases hv
        have HX : Hid (ss[k]? = some s) := hs
        have HE : Hid (EdgesIn 0 wr ev s.es) := hev
        clear hs hev
        go_wp2_with fail
        refine (szState_any _ _ _ s.es _ HE.out (by omega) (by omega)).mono ?_
        rintro e w' ⟨⟨r', rfl, hr1', hr2⟩, hb'⟩
        have HR : Hid (0 ≤ r' → s.es.length ≤ 1048576) := hr2
        have HB' : Hid (Below w.heap.size w w') := HB.out.trans (hb'.mono HB.out.size)
        clear hr2 hb' c1 c2
        by_cases hr : r' < 0
        · go_wp2
          go_ret
          exact ⟨⟨-1, rfl, by omega⟩, HB'.out⟩
        · go_wp2
          go_roundw
          case rel =>
            refine ⟨k + 1, r', by omega, by go_num, rfl, by omega, by omega, fun j x hj hx => ?_, HB'.out⟩
            by_cases e : j = k
            · subst e
              rw [HX.out] at hx
              cases hx
              exact HR.out (by omega)
            · exact HA.out j x (by omega) hx
          case measure => simp [intOf]; omega
      · go_wp2
        go_ret
        exact ⟨⟨r, rfl, fun _ => ⟨by omega, fun i s hs => HA.out i s (by have := (List.getElem?_eq_some_iff.1 hs).1; omega) hs⟩⟩, HB.out⟩
set_option maxHeartbeats 1000000 in
theorem toEdge_any (x y : Int) (w : World) :
    Calls Try.prog 39 #[.agg #[.int .i64 x, .int .i64 y]] w fun e w' => e = .returned (.agg #[.int .i64 x, .int .i64 y]) ∧ Below w.heap.size w w' := by
  go_enter Try.func39, Try.ntmps39
  go_wp2
  refine bodyPost_ret (v := .agg #[.int .i64 x, .int .i64 y]) (by simp [results, Try.results39, go_sem]) rfl ⟨rfl, ?_⟩
  exact (((Below.refl _ _).alloc (Nat.le_refl _) _).alloc (by simp) _).alloc (by simp <;> omega) _
end Go.Proofs.Ytpjkgpglbbppjaa
