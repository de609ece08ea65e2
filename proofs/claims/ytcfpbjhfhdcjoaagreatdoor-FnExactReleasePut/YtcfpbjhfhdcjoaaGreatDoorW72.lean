/-
  Books handed over: sizes.
-/
import Derived.Test.YtcfpbjhfhdcjoaaGreatDoorW70
import Derived.Test.YtcfpbjhfhdcjoaaGreatDoorW23
namespace Go.Proofs.YtcfpbjhfhdcjoaaGreatDoor
open Go.RowKit
set_option linter.unusedVariables false
theorem szA_le (a : Aff) (left : Int) (h : 0 ≤ left) : szA a left ≤ left := by
  unfold szA
  split
  · omega
  · split
    · omega
    · split
      · omega
      · split <;> omega
set_option maxHeartbeats 1000000 in
theorem szAffixS_any (w : World) (v : Value) (xs : List Aff) (left : Int) (h : AffsAt w v xs) (h0 : 0 ≤ left) (h1 : left ≤ 1048576) :
    Calls Tryz.prog 19 #[v, .int .i64 left] w fun e w' => (∃ r : Int, e = .returned (.int .i64 r) ∧ r ≤ left ∧ (0 ≤ r → xs.length ≤ 1048576)) ∧ Below w.heap.size w w' := by
  obtain ⟨a, cap, rfl, hc, hm⟩ := h.form
  have HS : Hid (AffsAt w (.slice a xs.length cap) xs) := h
  clear h
  unfold maxLen at hm
  by_cases hl : left - xs.length < 0
  · go_enter Tryz.func19, Tryz.ntmps19
    go_wp2
    go_ret
    exact ⟨⟨-1, rfl, by omega, by omega⟩, Below.refl _ _⟩
  · go_enter Tryz.func19, Tryz.ntmps19
    go_wp2
    go_loopw [1, 5] (fun l i wr => ∃ (k : Nat) (r : Int), k ≤ xs.length ∧ i = .int .i64 k ∧ l = .int .i64 r ∧ 0 ≤ r ∧ r ≤ left ∧ Below w.heap.size w wr) (fun _ i _ => xs.length - (intOf i).toNat)
    case atStart => exact ⟨0, _, Nat.zero_le _, rfl, rfl, by omega, by omega, Below.refl _ _⟩
    case round =>
      obtain ⟨k, r, hk, rfl, rfl, hr0, hr1, hb⟩ := hrel
      have HB : Hid (Below w.heap.size w wr) := hb
      clear hb
      by_cases hlt : k < xs.length
      · obtain ⟨b, off, cap', x, hv, hbl, hx, hxf, e0, e1, e2, e3, e4⟩ := (HS.out.below HB.out).at hlt
        cases hv
        obtain ⟨f, fr, st, ad, wh⟩ := x
        simp only at e0 e1 e2 e3 e4
        have HF : Hid (Aff.fits ⟨f, fr, st, ad, wh⟩) := hxf
        clear hx hxf
        go_wp2_with fail
        refine (szAffix_any ⟨f, fr, st, ad, wh⟩ _ _ HF.out (by omega) (by omega)).mono ?_
        rintro e w' ⟨rfl, hb'⟩
        have hle := szA_le ⟨f, fr, st, ad, wh⟩ r hr0
        have HB' : Hid (Below w.heap.size w w') := HB.out.trans (hb'.mono HB.out.size)
        generalize szA ⟨f, fr, st, ad, wh⟩ r = r' at *
        clear hb' e0 e1 e2 e3 e4
        by_cases hr : r' < 0
        · go_wp2
          go_ret
          exact ⟨⟨-1, rfl, by omega, by omega⟩, HB'.out⟩
        · go_wp2
          go_roundw
          case rel => exact ⟨k + 1, r', by omega, by go_num, rfl, by omega, by omega, HB'.out⟩
          case measure => simp [intOf]; omega
      · go_wp2
        go_ret
        exact ⟨⟨r, rfl, by omega, by omega⟩, HB.out⟩
set_option maxHeartbeats 1000000 in
theorem szEntry_any (s f : ByteArray) (left : Int) (w : World) (hs : s.size ≤ maxLen) (hf : f.size ≤ maxLen) (h0 : 0 ≤ left) (h1 : left ≤ 1048576) :
    Calls Tryz.prog 36 #[.agg #[.string s, .string f], .int .i64 left] w fun e w' => (∃ r : Int, e = .returned (.int .i64 r) ∧ r ≤ left) ∧ Below w.heap.size w w' := by
  unfold maxLen at hs hf
  by_cases c1 : left - s.size < 0
  · go_enter Tryz.func36, Tryz.ntmps36
    go_wp2
    go_ret
    exact ⟨⟨-1, rfl, by omega⟩, (Below.refl _ _).alloc (Nat.le_refl _) _⟩
  by_cases c2 : left - s.size - f.size < 0
  · go_enter Tryz.func36, Tryz.ntmps36
    go_wp2
    go_ret
    exact ⟨⟨-1, rfl, by omega⟩, (Below.refl _ _).alloc (Nat.le_refl _) _⟩
  · go_enter Tryz.func36, Tryz.ntmps36
    go_wp2
    go_ret
    exact ⟨⟨_, rfl, by omega⟩, (Below.refl _ _).alloc (Nat.le_refl _) _⟩
set_option maxHeartbeats 1000000 in
theorem szEntryS_any (w : World) (v : Value) (es : List (ByteArray × ByteArray)) (left : Int) (h : EntsAt w v es) (h0 : 0 ≤ left) (h1 : left ≤ 1048576) :
    Calls Tryz.prog 18 #[v, .int .i64 left] w fun e w' => (∃ r : Int, e = .returned (.int .i64 r) ∧ r ≤ left ∧ (0 ≤ r → es.length ≤ 1048576)) ∧ Below w.heap.size w w' := by
  obtain ⟨a, cap, rfl, hc, hm⟩ := h.form
  have HS : Hid (EntsAt w (.slice a es.length cap) es) := h
  clear h
  unfold maxLen at hm
  by_cases hl : left - es.length < 0
  · go_enter Tryz.func18, Tryz.ntmps18
    go_wp2
    go_ret
    exact ⟨⟨-1, rfl, by omega, by omega⟩, Below.refl _ _⟩
  · go_enter Tryz.func18, Tryz.ntmps18
    go_wp2
    go_loopw [1, 5] (fun l i wr => ∃ (k : Nat) (r : Int), k ≤ es.length ∧ i = .int .i64 k ∧ l = .int .i64 r ∧ 0 ≤ r ∧ r ≤ left ∧ Below w.heap.size w wr) (fun _ i _ => es.length - (intOf i).toNat)
    case atStart => exact ⟨0, _, Nat.zero_le _, rfl, rfl, by omega, by omega, Below.refl _ _⟩
    case round =>
      obtain ⟨k, r, hk, rfl, rfl, hr0, hr1, hb⟩ := hrel
      have HB : Hid (Below w.heap.size w wr) := hb
      clear hb
      by_cases hlt : k < es.length
      · obtain ⟨b, off, cap', x, hv, hbl, hx, ⟨hx1, hx2⟩, e0, e1⟩ := (HS.out.below HB.out).at hlt
        cases hv
        obtain ⟨s, f⟩ := x
        simp only at e0 e1 hx1 hx2
        have HF1 : Hid (s.size ≤ maxLen) := hx1
        have HF2 : Hid (f.size ≤ maxLen) := hx2
        clear hx hx1 hx2
        go_wp2_with fail
        refine (szEntry_any s f _ _ HF1.out HF2.out (by omega) (by omega)).mono ?_
        rintro e w' ⟨⟨r', rfl, hle⟩, hb'⟩
        have HB' : Hid (Below w.heap.size w w') := HB.out.trans (hb'.mono HB.out.size)
        clear hb' e0 e1
        by_cases hr : r' < 0
        · go_wp2
          go_ret
          exact ⟨⟨-1, rfl, by omega, by omega⟩, HB'.out⟩
        · go_wp2
          go_roundw
          case rel => exact ⟨k + 1, r', by omega, by go_num, rfl, by omega, by omega, HB'.out⟩
          case measure => simp [intOf]; omega
      · go_wp2
        go_ret
        exact ⟨⟨r, rfl, by omega, by omega⟩, HB.out⟩
end Go.Proofs.YtcfpbjhfhdcjoaaGreatDoor
