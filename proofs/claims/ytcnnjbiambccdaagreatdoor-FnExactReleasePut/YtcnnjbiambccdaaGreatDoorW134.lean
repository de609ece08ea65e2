/-
  Affixes and entries that are one's own memory: copied so, and marked.
-/
import Derived.Test.YtcnnjbiambccdaaGreatDoorW119
import Derived.Test.YtcnnjbiambccdaaGreatDoorGW78
import Derived.Test.YtcnnjbiambccdaaGreatDoorGW92
namespace Go.Proofs.YtcnnjbiambccdaaGreatDoor
open Go.RowKit
set_option linter.unusedVariables false
/-- Affixes in a row of their own. -/
def AffsOwn (lo hi : Nat) (w : World) (v : Value) (xs : List Aff) : Prop :=
  RowOwn 72 5 lo hi w v xs.length (AffsTo xs.length xs) ∧ ∀ (i : Nat) (x : Aff), xs[i]? = some x → x.fits
/-- Entries in a row of their own. -/
def EntsOwn (lo hi : Nat) (w : World) (v : Value) (es : List (ByteArray × ByteArray)) : Prop :=
  RowOwn 67 2 lo hi w v es.length (EntsTo es.length es) ∧ ∀ (i : Nat) (x : ByteArray × ByteArray), es[i]? = some x → x.1.size ≤ maxLen ∧ x.2.size ≤ maxLen
theorem AffsOwn.at {lo hi : Nat} {w : World} {v : Value} {xs : List Aff} (h : AffsOwn lo hi w v xs) : AffsAt w v xs := by
  obtain ⟨⟨a, cap, hv, hc, hm, hh⟩, hf⟩ := h
  refine ⟨a, cap, hv, hc, hm, hf, fun hn => ?_⟩
  obtain ⟨g, m, f, ha, _, _, hle, hr, hx⟩ := hh (fun e => hn (List.length_eq_zero_iff.1 e))
  refine ⟨g, 0, ha, hr.lt, fun i x hi => ?_⟩
  have hlt : i < xs.length := (List.getElem?_eq_some_iff.1 hi).1
  obtain ⟨h0, h1, h2, h3, h4⟩ := hx i x hlt hi
  rw [Nat.zero_add]
  exact ⟨(hr.cell (by omega)).trans (by rw [h0]), (hr.cell (by omega)).trans (by rw [h1]), (hr.cell (by omega)).trans (by rw [h2]), (hr.cell (by omega)).trans (by rw [h3]), (hr.cell (by omega)).trans (by rw [h4])⟩
theorem EntsOwn.at {lo hi : Nat} {w : World} {v : Value} {es : List (ByteArray × ByteArray)} (h : EntsOwn lo hi w v es) : EntsAt w v es := by
  obtain ⟨⟨a, cap, hv, hc, hm, hh⟩, hf⟩ := h
  refine ⟨a, cap, hv, hc, hm, hf, fun hn => ?_⟩
  obtain ⟨g, m, f, ha, _, _, hle, hr, hx⟩ := hh (fun e => hn (List.length_eq_zero_iff.1 e))
  refine ⟨g, 0, ha, hr.lt, fun i x hi => ?_⟩
  have hlt : i < es.length := (List.getElem?_eq_some_iff.1 hi).1
  obtain ⟨h0, h1⟩ := hx i x hlt hi
  rw [Nat.zero_add]
  exact ⟨(hr.cell (by omega)).trans (by rw [h0]), (hr.cell (by omega)).trans (by rw [h1])⟩
theorem AffsOwn.below {lo hi : Nat} {w w' : World} {v : Value} {xs : List Aff} (h : AffsOwn lo hi w v xs) (hb : Below w.heap.size w w') : AffsOwn lo hi w' v xs := ⟨h.1.below hb, h.2⟩
theorem EntsOwn.below {lo hi : Nat} {w w' : World} {v : Value} {es : List (ByteArray × ByteArray)} (h : EntsOwn lo hi w v es) (hb : Below w.heap.size w w') : EntsOwn lo hi w' v es := ⟨h.1.below hb, h.2⟩
theorem AffsOwn.wr {lo hi l h' : Nat} {w w' : World} {v : Value} {xs : List Aff} (h : AffsOwn lo hi w v xs) (hw : Wr l h' w w') (hl : h' ≤ lo) : AffsOwn lo hi w' v xs := ⟨h.1.wr hw hl, h.2⟩
theorem EntsOwn.wr {lo hi l h' : Nat} {w w' : World} {v : Value} {es : List (ByteArray × ByteArray)} (h : EntsOwn lo hi w v es) (hw : Wr l h' w w') (hl : h' ≤ lo) : EntsOwn lo hi w' v es := ⟨h.1.wr hw hl, h.2⟩
/-- Marks of affixes and entries. -/
def markA (k : Nat) : Aff := ⟨markT k, decide (((k : Int) + 1) % 3 = 0), markT (k + 2), markT (k + 3), markT (k + 4)⟩
def marksA (k n : Nat) : List Aff := (List.range n).map fun i => markA (k + i * 5)
def marksE (k n : Nat) : List (ByteArray × ByteArray) := (List.range n).map fun i => (markT (k + i * 2), markT (k + i * 2 + 1))
theorem marksA_length (k n : Nat) : (marksA k n).length = n := by simp [marksA]
theorem marksE_length (k n : Nat) : (marksE k n).length = n := by simp [marksE]
theorem marksA_at {k n i : Nat} (h : i < n) : (marksA k n)[i]? = some (markA (k + i * 5)) := by simp [marksA, h]
theorem marksE_at {k n i : Nat} (h : i < n) : (marksE k n)[i]? = some (markT (k + i * 2), markT (k + i * 2 + 1)) := by simp [marksE, h]
theorem markT_fit (n : Nat) : (markT n).size ≤ maxLen := by have := markT_size n; unfold maxLen; omega
theorem marksA_fit (k n : Nat) : ∀ (i : Nat) (x : Aff), (marksA k n)[i]? = some x → x.fits := fun i x hx => by
  have hi : i < n := by have := (List.getElem?_eq_some_iff.1 hx).1; rwa [marksA_length] at this
  rw [marksA_at hi] at hx
  cases hx
  exact ⟨markT_fit (k + i * 5), markT_fit (k + i * 5 + 2), markT_fit (k + i * 5 + 3), markT_fit (k + i * 5 + 4)⟩
theorem marksE_fit (k n : Nat) : ∀ (i : Nat) (x : ByteArray × ByteArray), (marksE k n)[i]? = some x → x.1.size ≤ maxLen ∧ x.2.size ≤ maxLen := fun i x hx => by
  have hi : i < n := by have := (List.getElem?_eq_some_iff.1 hx).1; rwa [marksE_length] at this
  rw [marksE_at hi] at hx
  cases hx
  exact ⟨markT_fit (k + i * 2), markT_fit (k + i * 2 + 1)⟩
set_option maxHeartbeats 1000000 in
theorem toAffixS_own (w : World) (v : Value) (xs : List Aff) (h : AffsAt w v xs) (hn : xs.length ≤ 1048576) :
    Calls Tryz.prog 27 #[v] w fun e w' => e = .returned (.slice (some ⟨w.heap.size, 0, none⟩) xs.length xs.length) ∧ AffsOwn w.heap.size w'.heap.size w' (.slice (some ⟨w.heap.size, 0, none⟩) xs.length xs.length) xs ∧ Below w.heap.size w w' := by
  obtain ⟨a, cap, rfl, hc, hm⟩ := h.form
  have HS : Hid (AffsAt w (.slice a xs.length cap) xs) := h
  clear h
  have hmk := run_make7 Tryz.prog 32 72 _ _ _ Tryz.underlying32 Tryz.info_affix xs.length (by omega) (by omega)
  obtain ⟨f0, hf0⟩ := rowIs_made7 w #[.string ⟨#[]⟩, .bool false, .string ⟨#[]⟩, .string ⟨#[]⟩, .string ⟨#[]⟩] (xs.length * 5) 72
  have HF : Hid ((w.alloc (.cells (madeCells #[.string ⟨#[]⟩, .bool false, .string ⟨#[]⟩, .string ⟨#[]⟩, .string ⟨#[]⟩] (xs.length * 5)) 72)).rowIs w.heap.size 72 (xs.length * 5) f0) := hf0
  clear hf0
  go_enter Tryz.func27, Tryz.ntmps27
  go_wp2
  go_loopw [4] (fun i wr => ∃ (k : Nat) (f : Nat → Value), k ≤ xs.length ∧ i = .int .i64 k ∧ wr.rowIs w.heap.size 72 (xs.length * 5) f ∧ AffsTo k xs f ∧ Below w.heap.size w wr) (fun i _ => xs.length - (intOf i).toNat)
  case atStart => exact ⟨0, f0, Nat.zero_le _, rfl, HF.out, fun j s hj => absurd hj (by omega), (Below.refl _ _).alloc (Nat.le_refl _) _⟩
  case round =>
    obtain ⟨k, f, hk, rfl, hrow, hall, hb⟩ := hrel
    have HA : Hid (AffsTo k xs f) := hall
    have HB : Hid (Below w.heap.size w wr) := hb
    have HW : Hid (wr.rowIs w.heap.size 72 (xs.length * 5) f) := hrow
    clear hall hb hrow
    by_cases hlt : k < xs.length
    · obtain ⟨b, off, cap', x, hv, hbl, hx, hxf, e0, e1, e2, e3, e4⟩ := (HS.out.below HB.out).at hlt
      cases hv
      have HX : Hid (xs[k]? = some x) := hx
      obtain ⟨fl, fr, st, ad, wh⟩ := x
      simp only at e0 e1 e2 e3 e4
      clear hx hxf
      go_wp2_with fail
      refine (toAffix_any ⟨fl, fr, st, ad, wh⟩ _).mono ?_
      rintro e w' ⟨rfl, hb'⟩
      unfold Aff.cells
      have HW' : Hid (w'.rowIs w.heap.size 72 (xs.length * 5) f) := rowIs_below7 HW.out hb'
      have HB' : Hid (Below w.heap.size w w') := HB.out.trans (hb'.mono HB.out.size)
      have d0 := HW'.out.cell (i := k * 5) (by omega)
      have d1 := HW'.out.cell (i := k * 5 + 1) (by omega)
      have d2 := HW'.out.cell (i := k * 5 + 2) (by omega)
      have d3 := HW'.out.cell (i := k * 5 + 3) (by omega)
      have d4 := HW'.out.cell (i := k * 5 + 4) (by omega)
      have g0 := HW'.out.frozen (k * 5)
      have g1 := HW'.out.frozen (k * 5 + 1)
      have g2 := HW'.out.frozen (k * 5 + 2)
      have g3 := HW'.out.frozen (k * 5 + 3)
      have g4 := HW'.out.frozen (k * 5 + 4)
      clear hb' e0 e1 e2 e3 e4
      go_wp2
      go_roundw
      case rel => exact ⟨k + 1, _, by omega, by go_num, rowIs_set5 HW'.out k _ _ _ _ _, HA.out.next HX.out, ((((HB'.out.setCell (Nat.le_refl _) _).setCell (Nat.le_refl _) _).setCell (Nat.le_refl _) _).setCell (Nat.le_refl _) _).setCell (Nat.le_refl _) _⟩
      case measure => simp [intOf]; omega
    · obtain rfl : k = xs.length := by omega
      go_wp2
      go_ret
      exact ⟨rfl, ⟨⟨_, _, rfl, Nat.le_refl _, by unfold maxLen; omega, fun _ => ⟨w.heap.size, _, f, rfl, Nat.le_refl _, HW.out.lt, Nat.le_refl _, HW.out, HA.out⟩⟩, HS.out.fit⟩, HB.out⟩
set_option maxHeartbeats 1000000 in
theorem toEntryS_own (w : World) (v : Value) (es : List (ByteArray × ByteArray)) (h : EntsAt w v es) (hn : es.length ≤ 1048576) :
    Calls Tryz.prog 26 #[v] w fun e w' => e = .returned (.slice (some ⟨w.heap.size, 0, none⟩) es.length es.length) ∧ EntsOwn w.heap.size w'.heap.size w' (.slice (some ⟨w.heap.size, 0, none⟩) es.length es.length) es ∧ Below w.heap.size w w' := by
  obtain ⟨a, cap, rfl, hc, hm⟩ := h.form
  have HS : Hid (EntsAt w (.slice a es.length cap) es) := h
  clear h
  have hmk := run_make7 Tryz.prog 31 67 _ _ _ Tryz.underlying31 Tryz.info_entry es.length (by omega) (by omega)
  obtain ⟨f0, hf0⟩ := rowIs_made7 w #[.string ⟨#[]⟩, .string ⟨#[]⟩] (es.length * 2) 67
  have HF : Hid ((w.alloc (.cells (madeCells #[.string ⟨#[]⟩, .string ⟨#[]⟩] (es.length * 2)) 67)).rowIs w.heap.size 67 (es.length * 2) f0) := hf0
  clear hf0
  go_enter Tryz.func26, Tryz.ntmps26
  go_wp2
  go_loopw [4] (fun i wr => ∃ (k : Nat) (f : Nat → Value), k ≤ es.length ∧ i = .int .i64 k ∧ wr.rowIs w.heap.size 67 (es.length * 2) f ∧ EntsTo k es f ∧ Below w.heap.size w wr) (fun i _ => es.length - (intOf i).toNat)
  case atStart => exact ⟨0, f0, Nat.zero_le _, rfl, HF.out, fun j s hj => absurd hj (by omega), (Below.refl _ _).alloc (Nat.le_refl _) _⟩
  case round =>
    obtain ⟨k, f, hk, rfl, hrow, hall, hb⟩ := hrel
    have HA : Hid (EntsTo k es f) := hall
    have HB : Hid (Below w.heap.size w wr) := hb
    have HW : Hid (wr.rowIs w.heap.size 67 (es.length * 2) f) := hrow
    clear hall hb hrow
    by_cases hlt : k < es.length
    · obtain ⟨b, off, cap', x, hv, hbl, hx, hxf, e0, e1⟩ := (HS.out.below HB.out).at hlt
      cases hv
      have HX : Hid (es[k]? = some x) := hx
      obtain ⟨s, fl⟩ := x
      simp only at e0 e1
      clear hx hxf
      go_wp2_with fail
      refine (toEntry_any s fl _).mono ?_
      rintro e w' ⟨rfl, hb'⟩
      have HW' : Hid (w'.rowIs w.heap.size 67 (es.length * 2) f) := rowIs_below7 HW.out hb'
      have HB' : Hid (Below w.heap.size w w') := HB.out.trans (hb'.mono HB.out.size)
      have d0 := HW'.out.cell (i := k * 2) (by omega)
      have d1 := HW'.out.cell (i := k * 2 + 1) (by omega)
      have g0 := HW'.out.frozen (k * 2)
      have g1 := HW'.out.frozen (k * 2 + 1)
      clear hb' e0 e1
      go_wp2
      go_roundw
      case rel => exact ⟨k + 1, _, by omega, by go_num, rowIs_set7 HW'.out k _ _, HA.out.next HX.out, (HB'.out.setCell (Nat.le_refl _) _).setCell (Nat.le_refl _) _⟩
      case measure => simp [intOf]; omega
    · obtain rfl : k = es.length := by omega
      go_wp2
      go_ret
      exact ⟨rfl, ⟨⟨_, _, rfl, Nat.le_refl _, by unfold maxLen; omega, fun _ => ⟨w.heap.size, _, f, rfl, Nat.le_refl _, HW.out.lt, Nat.le_refl _, HW.out, HA.out⟩⟩, HS.out.fit⟩, HB.out⟩
end Go.Proofs.YtcnnjbiambccdaaGreatDoor
