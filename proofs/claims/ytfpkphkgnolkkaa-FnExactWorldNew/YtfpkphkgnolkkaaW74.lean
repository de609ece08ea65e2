/-
  Books: toBook; eqBook where both are the same.
-/
import Derived.Test.YtfpkphkgnolkkaaW73
import Derived.Deep.RegionWith
namespace Go.Proofs.Ytfpkphkgnolkkaa
open Go.RowKit
set_option linter.unusedVariables false
theorem bcell7 {W w1 : World} (hb : Below W.heap.size W w1) : (∀ b o, b < W.heap.size → w1.cell? ⟨b, o, none⟩ = W.cell? ⟨b, o, none⟩) ∧ (∀ b o, b < W.heap.size → w1.frozen? ⟨b, o, none⟩ = W.frozen? ⟨b, o, none⟩) :=
  ⟨fun b o h => hb.cell (p := ⟨b, o, none⟩) h, fun b o h => hb.frozen (p := ⟨b, o, none⟩) h⟩
set_option maxHeartbeats 1000000 in
theorem eqEntry_same (s f : ByteArray) (w : World) :
    Calls Try.prog 33 #[.agg #[.string s, .string f], .agg #[.string s, .string f]] w fun e w' => e = .returned (.bool true) ∧ Below w.heap.size w w' := by
  go_enter Try.func33, Try.ntmps33
  go_wp2
  go_ret
  exact ⟨rfl, ((Below.refl _ _).alloc (Nat.le_refl _) _).alloc (by simp) _⟩
set_option maxHeartbeats 1000000 in
theorem eqAffix_same (f st ad wh : ByteArray) (fr : Bool) (w : World) :
    Calls Try.prog 32 #[.agg #[.string f, .bool fr, .string st, .string ad, .string wh], .agg #[.string f, .bool fr, .string st, .string ad, .string wh]] w fun e w' => e = .returned (.bool true) ∧ Below w.heap.size w w' := by
  go_enter Try.func32, Try.ntmps32
  go_wp2
  go_ret
  exact ⟨rfl, ((Below.refl _ _).alloc (Nat.le_refl _) _).alloc (by simp) _⟩
set_option maxHeartbeats 1000000 in
theorem eqEntryS_same (w : World) (v u : Value) (es : List (ByteArray × ByteArray)) (h : EntsAt w v es) (h' : EntsAt w u es) :
    Calls Try.prog 31 #[v, u] w fun e w' => e = .returned (.bool true) ∧ Below w.heap.size w w' := by
  obtain ⟨a, cap, rfl, hc, hm⟩ := h.form
  obtain ⟨a', cap', rfl, hc', hm'⟩ := h'.form
  have HS : Hid (EntsAt w (.slice a es.length cap) es) := h
  have HS' : Hid (EntsAt w (.slice a' es.length cap') es) := h'
  clear h h'
  unfold maxLen at hm hm'
  go_enter Try.func31, Try.ntmps31
  go_wp2
  go_loopw [5] (fun i wr => ∃ (k : Nat), k ≤ es.length ∧ i = .int .i64 k ∧ Below w.heap.size w wr) (fun i _ => es.length - (intOf i).toNat)
  case atStart => exact ⟨0, Nat.zero_le _, rfl, Below.refl _ _⟩
  case round =>
    obtain ⟨k, hk, rfl, hb⟩ := hrel
    have HB : Hid (Below w.heap.size w wr) := hb
    clear hb
    by_cases hlt : k < es.length
    · obtain ⟨b, off, cap1, x, hv, hbl, hx, _, c1, c2⟩ := (HS.out.below HB.out).at hlt
      cases hv
      obtain ⟨b', off', cap2, x', hv', hbl', hx', _, c1', c2'⟩ := (HS'.out.below HB.out).at hlt
      cases hv'
      rw [hx] at hx'
      cases hx'
      clear hx
      go_wp2_with fail
      go_region_with (go_at_call 33; refine (eqEntry_same _ _ _).mono ?_; rintro e w' ⟨rfl, hb'⟩; have HB' : Hid (Below w.heap.size w w') := HB.out.drew.trans (hb'.mono HB.out.size); clear hb')
      all_goals
        go_wp2
        go_roundw
        case rel => exact ⟨k + 1, by omega, by go_num, HB'.out⟩
        case measure => simp [intOf]; omega
    · go_wp2
      go_ret
      exact ⟨rfl, HB.out⟩
set_option maxHeartbeats 2000000 in
theorem eqAffixS_same (w : World) (v u : Value) (xs : List Aff) (h : AffsAt w v xs) (h' : AffsAt w u xs) :
    Calls Try.prog 30 #[v, u] w fun e w' => e = .returned (.bool true) ∧ Below w.heap.size w w' := by
  obtain ⟨a, cap, rfl, hc, hm⟩ := h.form
  obtain ⟨a', cap', rfl, hc', hm'⟩ := h'.form
  have HS : Hid (AffsAt w (.slice a xs.length cap) xs) := h
  have HS' : Hid (AffsAt w (.slice a' xs.length cap') xs) := h'
  clear h h'
  unfold maxLen at hm hm'
  go_enter Try.func30, Try.ntmps30
  go_wp2
  go_loopw [5] (fun i wr => ∃ (k : Nat), k ≤ xs.length ∧ i = .int .i64 k ∧ Below w.heap.size w wr) (fun i _ => xs.length - (intOf i).toNat)
  case atStart => exact ⟨0, Nat.zero_le _, rfl, Below.refl _ _⟩
  case round =>
    obtain ⟨k, hk, rfl, hb⟩ := hrel
    have HB : Hid (Below w.heap.size w wr) := hb
    clear hb
    by_cases hlt : k < xs.length
    · obtain ⟨b, off, cap1, x, hv, hbl, hx, _, c0, c1, c2, c3, c4⟩ := (HS.out.below HB.out).at hlt
      cases hv
      obtain ⟨b', off', cap2, x', hv', hbl', hx', _, d0, d1, d2, d3, d4⟩ := (HS'.out.below HB.out).at hlt
      cases hv'
      rw [hx] at hx'
      cases hx'
      clear hx
      go_wp2_with fail
      go_region_with (go_at_call 32; refine (eqAffix_same _ _ _ _ _ _).mono ?_; rintro e w' ⟨rfl, hb'⟩; have HB' : Hid (Below w.heap.size w w') := HB.out.drew.trans (hb'.mono HB.out.size); clear hb')
      all_goals
        go_wp2
        go_roundw
        case rel => exact ⟨k + 1, by omega, by go_num, HB'.out⟩
        case measure => simp [intOf]; omega
    · go_wp2
      go_ret
      exact ⟨rfl, HB.out⟩
set_option maxHeartbeats 1000000 in
theorem eqBook_same (w : World) (va ve ua ue : Value) (xs : List Aff) (es : List (ByteArray × ByteArray)) (ha : AffsAt w va xs) (he : EntsAt w ve es) (ha' : AffsAt w ua xs) (he' : EntsAt w ue es) :
    Calls Try.prog 23 #[.agg #[va, ve], .agg #[ua, ue]] w fun e w' => e = .returned (.bool true) ∧ Below w.heap.size w w' := by
  obtain ⟨a1, cap1, rfl, _, _⟩ := ha.form
  obtain ⟨a2, cap2, rfl, _, _⟩ := he.form
  obtain ⟨a3, cap3, rfl, _, _⟩ := ha'.form
  obtain ⟨a4, cap4, rfl, _, _⟩ := he'.form
  have H1 : Hid (AffsAt w (.slice a1 xs.length cap1) xs) := ha
  have H2 : Hid (EntsAt w (.slice a2 es.length cap2) es) := he
  have H3 : Hid (AffsAt w (.slice a3 xs.length cap3) xs) := ha'
  have H4 : Hid (EntsAt w (.slice a4 es.length cap4) es) := he'
  clear ha he ha' he'
  go_enter Try.func23, Try.ntmps23
  go_wp2_with fail
  refine (eqAffixS_same _ _ _ xs (H1.out.below ?b1) (H3.out.below ?b1)).mono ?_
  case b1 => exact ((Below.refl _ _).alloc (Nat.le_refl _) _).alloc (by simp) _
  rintro e w1 ⟨rfl, hb1⟩
  have HB1 : Hid (Below w.heap.size w w1) := Below.trans (((Below.refl _ _).alloc (Nat.le_refl _) _).alloc (by simp) _) (hb1.mono (by simp <;> omega))
  obtain ⟨hcl, hfz⟩ := bcell7 hb1
  have hz := hb1.size
  simp at hz
  clear hb1
  go_wp2_with fail
  refine (eqEntryS_same _ _ _ es (H2.out.below HB1.out) (H4.out.below HB1.out)).mono ?_
  rintro e w2 ⟨rfl, hb2⟩
  have HB2 : Hid (Below w.heap.size w w2) := HB1.out.trans (hb2.mono HB1.out.size)
  clear hb2 hcl hfz
  go_wp2
  go_ret
  exact ⟨rfl, HB2.out⟩
end Go.Proofs.Ytfpkphkgnolkkaa
