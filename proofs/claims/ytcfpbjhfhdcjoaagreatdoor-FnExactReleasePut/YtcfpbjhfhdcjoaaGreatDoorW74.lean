/-
  Books: toBook; eqBook where both are the same.
-/
import Derived.Test.YtcfpbjhfhdcjoaaGreatDoorW73
import Derived.Deep.RegionWith
namespace Go.Proofs.YtcfpbjhfhdcjoaaGreatDoor
open Go.RowKit
set_option linter.unusedVariables false
theorem bcell7 {W w1 : World} (hb : Below W.heap.size W w1) : (∀ b o, b < W.heap.size → w1.cell? ⟨b, o, none⟩ = W.cell? ⟨b, o, none⟩) ∧ (∀ b o, b < W.heap.size → w1.frozen? ⟨b, o, none⟩ = W.frozen? ⟨b, o, none⟩) :=
  ⟨fun b o h => hb.cell (p := ⟨b, o, none⟩) h, fun b o h => hb.frozen (p := ⟨b, o, none⟩) h⟩
set_option maxHeartbeats 1000000 in
theorem eqEntry_same (s f : ByteArray) (w : World) :
    Calls Tryz.prog 56 #[.agg #[.string s, .string f], .agg #[.string s, .string f]] w fun e w' => e = .returned (.bool true) ∧ Below w.heap.size w w' := by
  go_enter Tryz.func56, Tryz.ntmps56
  go_wp2
  go_ret
  exact ⟨rfl, ((Below.refl _ _).alloc (Nat.le_refl _) _).alloc (by simp) _⟩
set_option maxHeartbeats 1000000 in
theorem eqAffix_same (f st ad wh : ByteArray) (fr : Bool) (w : World) :
    Calls Tryz.prog 57 #[.agg #[.string f, .bool fr, .string st, .string ad, .string wh], .agg #[.string f, .bool fr, .string st, .string ad, .string wh]] w fun e w' => e = .returned (.bool true) ∧ Below w.heap.size w w' := by
  go_enter Tryz.func57, Tryz.ntmps57
  go_wp2
  go_ret
  exact ⟨rfl, ((Below.refl _ _).alloc (Nat.le_refl _) _).alloc (by simp) _⟩
set_option maxHeartbeats 1000000 in
theorem eqEntryS_same (w : World) (v u : Value) (es : List (ByteArray × ByteArray)) (h : EntsAt w v es) (h' : EntsAt w u es) :
    Calls Tryz.prog 34 #[v, u] w fun e w' => e = .returned (.bool true) ∧ Below w.heap.size w w' := by
  obtain ⟨a, cap, rfl, hc, hm⟩ := h.form
  obtain ⟨a', cap', rfl, hc', hm'⟩ := h'.form
  have HS : Hid (EntsAt w (.slice a es.length cap) es) := h
  have HS' : Hid (EntsAt w (.slice a' es.length cap') es) := h'
  clear h h'
  unfold maxLen at hm hm'
  go_enter Tryz.func34, Tryz.ntmps34
  go_wp2
  go_loopw [5] (fun i wr => ∃ (k : Nat), k ≤ es.length ∧ i = .int .i64 k ∧ Below w.heap.size w wr) (fun i _ => es.length - (intOf i).toNat)
  case atStart => exact ⟨0, Nat.zero_le _, rfl, Below.refl _ _⟩
  case round =>
    obtain ⟨k, hk, rfl, hb⟩ := hrel
    have HB : Hid (Below w.heap.size w wr) := hb
    clear hb
    by_cases hlt : k < es.length
    · obtain ⟨b, off, cap1, x, hv, hbl, hx, _, c1, c2⟩ := (HS.out.below HB.out).at hlt
      cases hv
      obtain ⟨b', off', cap2, x', hv', hbl', hx', _, c1', c2'⟩ := (HS'.out.below HB.out).at hlt
      cases hv'
      rw [hx] at hx'
      cases hx'
      clear hx
      go_wp2_with fail
      go_region_with (go_at_call 56; refine (eqEntry_same _ _ _).mono ?_; rintro e w' ⟨rfl, hb'⟩; have HB' : Hid (Below w.heap.size w w') := HB.out.drew.trans (hb'.mono HB.out.size); clear hb')
      all_goals
        go_wp2
        go_roundw
        case rel => exact ⟨k + 1, by omega, by go_num, HB'.out⟩
        case measure => simp [intOf]; omega
    · go_wp2
      go_ret
      exact ⟨rfl, HB.out⟩
set_option maxHeartbeats 2000000 in
theorem eqAffixS_same (w : World) (v u : Value) (xs : List Aff) (h : AffsAt w v xs) (h' : AffsAt w u xs) :
    Calls Tryz.prog 35 #[v, u] w fun e w' => e = .returned (.bool true) ∧ Below w.heap.size w w' := by
  obtain ⟨a, cap, rfl, hc, hm⟩ := h.form
  obtain ⟨a', cap', rfl, hc', hm'⟩ := h'.form
  have HS : Hid (AffsAt w (.slice a xs.length cap) xs) := h
  have HS' : Hid (AffsAt w (.slice a' xs.length cap') xs) := h'
  clear h h'
  unfold maxLen at hm hm'
  go_enter Tryz.func35, Tryz.ntmps35
  go_wp2
  go_loopw [5] (fun i wr => ∃ (k : Nat), k ≤ xs.length ∧ i = .int .i64 k ∧ Below w.heap.size w wr) (fun i _ => xs.length - (intOf i).toNat)
  case atStart => exact ⟨0, Nat.zero_le _, rfl, Below.refl _ _⟩
  case round =>
    obtain ⟨k, hk, rfl, hb⟩ := hrel
    have HB : Hid (Below w.heap.size w wr) := hb
    clear hb
    by_cases hlt : k < xs.length
    · obtain ⟨b, off, cap1, x, hv, hbl, hx, _, c0, c1, c2, c3, c4⟩ := (HS.out.below HB.out).at hlt
      cases hv
      obtain ⟨b', off', cap2, x', hv', hbl', hx', _, d0, d1, d2, d3, d4⟩ := (HS'.out.below HB.out).at hlt
      cases hv'
      rw [hx] at hx'
      cases hx'
      clear hx
      go_wp2_with fail
      go_region_with (go_at_call 57; refine (eqAffix_same _ _ _ _ _ _).mono ?_; rintro e w' ⟨rfl, hb'⟩; have HB' : Hid (Below w.heap.size w w') := HB.out.drew.trans (hb'.mono HB.out.size); clear hb')
      all_goals
        go_wp2
        go_roundw
        case rel => exact ⟨k + 1, by omega, by go_num, HB'.out⟩
        case measure => simp [intOf]; omega
    · go_wp2
      go_ret
      exact ⟨rfl, HB.out⟩
end Go.Proofs.YtcfpbjhfhdcjoaaGreatDoor
