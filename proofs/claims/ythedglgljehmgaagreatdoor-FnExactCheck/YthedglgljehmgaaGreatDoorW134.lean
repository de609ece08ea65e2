/-
  Affixes and entries that are one's own memory: copied so, and marked.
-/
import Derived.Test.YthedglgljehmgaaGreatDoorW119
import Derived.Test.YthedglgljehmgaaGreatDoorGW78
import Derived.Test.YthedglgljehmgaaGreatDoorGW92
namespace Go.Proofs.YthedglgljehmgaaGreatDoor
open Go.RowKit
set_option linter.unusedVariables false
theorem markT_fit (n : Nat) : (markT n).size ≤ maxLen := by have := markT_size n; unfold maxLen; omega
/-- Affixes in a row of their own. -/
def AffsOwn (lo hi : Nat) (w : World) (v : Value) (xs : List Aff) : Prop :=
  RowOwn 77 5 lo hi w v xs.length (AffsTo xs.length xs) ∧ ∀ (i : Nat) (x : Aff), xs[i]? = some x → x.fits
/-- Entries in a row of their own. -/
def EntsOwn (lo hi : Nat) (w : World) (v : Value) (es : List (ByteArray × ByteArray)) : Prop :=
  RowOwn 80 2 lo hi w v es.length (EntsTo es.length es) ∧ ∀ (i : Nat) (x : ByteArray × ByteArray), es[i]? = some x → x.1.size ≤ maxLen ∧ x.2.size ≤ maxLen
theorem AffsOwn.at {lo hi : Nat} {w : World} {v : Value} {xs : List Aff} (h : AffsOwn lo hi w v xs) : AffsAt w v xs := by
  obtain ⟨⟨a, cap, hv, hc, hm, hh⟩, hf⟩ := h
  refine ⟨a, cap, hv, hc, hm, hf, fun hn => ?_⟩
  obtain ⟨g, m, f, ha, _, _, hle, hr, hx⟩ := hh (fun e => hn (List.length_eq_zero_iff.1 e))
  refine ⟨g, 0, ha, hr.lt, fun i x hi => ?_⟩
  have hlt : i < xs.length := (List.getElem?_eq_some_iff.1 hi).1
  obtain ⟨h0, h1, h2, h3, h4⟩ := hx i x hlt hi
  rw [Nat.zero_add]
  exact ⟨(hr.cell (by omega)).trans (by rw [h0]), (hr.cell (by omega)).trans (by rw [h1]), (hr.cell (by omega)).trans (by rw [h2]), (hr.cell (by omega)).trans (by rw [h3]), (hr.cell (by omega)).trans (by rw [h4])⟩
theorem EntsOwn.at {lo hi : Nat} {w : World} {v : Value} {es : List (ByteArray × ByteArray)} (h : EntsOwn lo hi w v es) : EntsAt w v es := by
  obtain ⟨⟨a, cap, hv, hc, hm, hh⟩, hf⟩ := h
  refine ⟨a, cap, hv, hc, hm, hf, fun hn => ?_⟩
  obtain ⟨g, m, f, ha, _, _, hle, hr, hx⟩ := hh (fun e => hn (List.length_eq_zero_iff.1 e))
  refine ⟨g, 0, ha, hr.lt, fun i x hi => ?_⟩
  have hlt : i < es.length := (List.getElem?_eq_some_iff.1 hi).1
  obtain ⟨h0, h1⟩ := hx i x hlt hi
  rw [Nat.zero_add]
  exact ⟨(hr.cell (by omega)).trans (by rw [h0]), (hr.cell (by omega)).trans (by rw [h1])⟩
theorem AffsOwn.below {lo hi : Nat} {w w' : World} {v : Value} {xs : List Aff} (h : AffsOwn lo hi w v xs) (hb : Below w.heap.size w w') : AffsOwn lo hi w' v xs := ⟨h.1.below hb, h.2⟩
theorem EntsOwn.below {lo hi : Nat} {w w' : World} {v : Value} {es : List (ByteArray × ByteArray)} (h : EntsOwn lo hi w v es) (hb : Below w.heap.size w w') : EntsOwn lo hi w' v es := ⟨h.1.below hb, h.2⟩
theorem AffsOwn.wr {lo hi l h' : Nat} {w w' : World} {v : Value} {xs : List Aff} (h : AffsOwn lo hi w v xs) (hw : Wr l h' w w') (hl : h' ≤ lo) : AffsOwn lo hi w' v xs := ⟨h.1.wr hw hl, h.2⟩
theorem EntsOwn.wr {lo hi l h' : Nat} {w w' : World} {v : Value} {es : List (ByteArray × ByteArray)} (h : EntsOwn lo hi w v es) (hw : Wr l h' w w') (hl : h' ≤ lo) : EntsOwn lo hi w' v es := ⟨h.1.wr hw hl, h.2⟩
/-- Marks of affixes and entries. -/
def markA (k : Nat) : Aff := ⟨markT k, decide (((k : Int) + 1) % 3 = 0), markT (k + 2), markT (k + 3), markT (k + 4)⟩
def marksA (k n : Nat) : List Aff := (List.range n).map fun i => markA (k + i * 5)
def marksE (k n : Nat) : List (ByteArray × ByteArray) := (List.range n).map fun i => (markT (k + i * 2), markT (k + i * 2 + 1))
theorem marksA_length (k n : Nat) : (marksA k n).length = n := by simp [marksA]
theorem marksE_length (k n : Nat) : (marksE k n).length = n := by simp [marksE]
theorem marksA_at {k n i : Nat} (h : i < n) : (marksA k n)[i]? = some (markA (k + i * 5)) := by simp [marksA, h]
theorem marksE_at {k n i : Nat} (h : i < n) : (marksE k n)[i]? = some (markT (k + i * 2), markT (k + i * 2 + 1)) := by simp [marksE, h]
theorem marksA_fit (k n : Nat) : ∀ (i : Nat) (x : Aff), (marksA k n)[i]? = some x → x.fits := fun i x hx => by
  have hi : i < n := by have := (List.getElem?_eq_some_iff.1 hx).1; rwa [marksA_length] at this
  rw [marksA_at hi] at hx
  cases hx
  exact ⟨markT_fit (k + i * 5), markT_fit (k + i * 5 + 2), markT_fit (k + i * 5 + 3), markT_fit (k + i * 5 + 4)⟩
theorem marksE_fit (k n : Nat) : ∀ (i : Nat) (x : ByteArray × ByteArray), (marksE k n)[i]? = some x → x.1.size ≤ maxLen ∧ x.2.size ≤ maxLen := fun i x hx => by
  have hi : i < n := by have := (List.getElem?_eq_some_iff.1 hx).1; rwa [marksE_length] at this
  rw [marksE_at hi] at hx
  cases hx
  exact ⟨markT_fit (k + i * 2), markT_fit (k + i * 2 + 1)⟩
theorem markText_int (x : Int) (N : Nat) (hx : x = N) (hN : N < 9000000000000000000) (w : World) :
    Calls Tryz.prog 42 #[.int .i64 x] w fun e w' => e = .returned (.string (markT N)) ∧ Below w.heap.size w w' := by
  subst hx
  exact markText_any N hN w
set_option maxHeartbeats 1000000 in
theorem markEntryS_any (lo hi k : Nat) (w : World) (v : Value) (n : Nat) (C : (Nat → Value) → Prop) (h : RowOwn 80 2 lo hi w v n C) (hn : n ≤ 2000000000) (hk : k ≤ 100000000000) (hlo : lo ≤ w.heap.size) :
    Calls Tryz.prog 41 #[v, .int .i64 k] w fun e w' => e = .returned (.int .i64 ((k + n * 2 : Nat) : Int)) ∧ EntsOwn lo hi w' v (marksE k n) ∧ Wr lo hi w w' ∧ w.grownBy w' (rowOf v n) := by
  obtain ⟨a, cap, rfl, hc, hm, hh⟩ := h
  have HC : Hid (cap ≤ maxLen) := hm
  unfold maxLen at hm
  by_cases h0 : n = 0
  · subst h0
    clear hh
    have HR : Hid (EntsOwn lo hi w (.slice a 0 cap) (marksE k 0)) := ⟨⟨a, cap, rfl, hc, HC.out, fun hh => absurd rfl hh⟩, marksE_fit k 0⟩
    go_enter Tryz.func41, Tryz.ntmps41
    go_wp2
    go_loopw [1, 5] (fun kv i wr => kv = .int .i64 k ∧ i = .int .i64 0 ∧ wr = w) (fun _ i _ => 0)
    case atStart => exact ⟨rfl, rfl, rfl⟩
    case round =>
      obtain ⟨rfl, rfl, rfl⟩ := hrel
      go_wp2
      go_ret
      exact ⟨by simp, HR.out, Wr.refl _ _ _, grown_refl _ _⟩
  · obtain ⟨g, m, f0, rfl, hg, hgh, hle, hr, _⟩ := hh h0
    have HR : Hid (w.rowIs g 80 m f0) := hr
    clear hr hh
    go_enter Tryz.func41, Tryz.ntmps41
    go_wp2
    go_loopw [1, 5] (fun kv i wr => ∃ (j : Nat) (f : Nat → Value), j ≤ n ∧ kv = .int .i64 (k + j * 2) ∧ i = .int .i64 j ∧ wr.rowIs g 80 m f ∧ EntsTo j (marksE k n) f ∧ Wr lo hi w wr ∧ w.grownBy wr (some g)) (fun _ i _ => n - (intOf i).toNat)
    case atStart => exact ⟨0, f0, Nat.zero_le _, by simp, rfl, HR.out, fun j x hj => absurd hj (by omega), Wr.refl _ _ _, grown_refl _ _⟩
    case round =>
      obtain ⟨j, f, hj, rfl, rfl, hr, ha, hw, hb⟩ := hrel
      have HB : Hid (w.grownBy wr (some g)) := hb
      have HW : Hid (wr.rowIs g 80 m f) := hr
      have HA : Hid (EntsTo j (marksE k n) f) := ha
      have HR2 : Hid (Wr lo hi w wr) := hw
      have hlr : lo ≤ wr.heap.size := Nat.le_trans hlo hw.sz
      clear hb hr ha hw
      by_cases hlt : j < n
      · have HX : Hid ((marksE k n)[j]? = some (markT (k + j * 2), markT (k + j * 2 + 1))) := marksE_at hlt
        have hm1 := markT_size (k + j * 2)
        have hm2 := markT_size (k + j * 2 + 1)
        go_wp2_with fail
        refine (markText_int _ (k + j * 2) (by push_cast; omega) (by omega) _).mono ?_
        rintro e w1 ⟨rfl, hb1⟩
        have HW1 : Hid (w1.rowIs g 80 m f) := HW.out.of_block (hb1.block g HW.out.lt)
        have HR3 : Hid (Wr lo hi w w1) := HR2.out.trans (Wr.of_below hb1 hlr)
        have HB1 : Hid (w.grownBy w1 (some g)) := grown_trans HB.out (grown_of_below _ hb1)
        have hl1 : lo ≤ w1.heap.size := Nat.le_trans hlr hb1.size
        have d0 := HW1.out.cell (i := j * 2) (by omega)
        have g0 := HW1.out.frozen (j * 2)
        clear hb1
        go_wp2_with fail
        refine (markText_int _ (k + j * 2 + 1) (by push_cast; omega) (by omega) _).mono ?_
        rintro e w2 ⟨rfl, hb2⟩
        have HWs : Hid ((w1.setCell ⟨g, j * 2, none⟩ (.string (markT (k + j * 2)))).rowIs g 80 m (fun i => if i = j * 2 then .string (markT (k + j * 2)) else f i)) := HW1.out.set _ _
        have HW2 : Hid (w2.rowIs g 80 m (fun i => if i = j * 2 then .string (markT (k + j * 2)) else f i)) := HWs.out.of_block (hb2.block g HWs.out.lt)
        have HR4 : Hid (Wr lo hi w w2) := (HR3.out.trans (Wr.set w1 (p := ⟨g, j * 2, none⟩) hg hgh rfl _)).trans (Wr.of_below hb2 (by rw [Go.Deep.nblk_setCell]; exact hl1))
        have HB2 : Hid (w.grownBy w2 (some g)) := grown_trans (grown_trans HB1.out (grown_set _ _ _ _)) (grown_of_below _ hb2)
        have d1 := HW2.out.cell (i := j * 2 + 1) (by omega)
        have g1 := HW2.out.frozen (j * 2 + 1)
        clear hb2 d0 g0
        go_wp2
        go_roundw
        case rel =>
          refine ⟨j + 1, _, by omega, by go_num, by go_num, HW2.out.set (j * 2 + 1) _, HA.out.next HX.out, HR4.out.trans (Wr.set w2 (p := ⟨g, j * 2 + 1, none⟩) hg hgh rfl _), grown_trans HB2.out (grown_set _ _ _ _)⟩
        case measure => simp [intOf]; omega
      · have hje : j = n := by omega
        subst hje
        go_wp2
        go_ret
        refine ⟨by push_cast; rfl, ⟨⟨_, cap, by rw [marksE_length], by rw [marksE_length]; exact hc, HC.out, fun _ => ⟨g, m, f, rfl, hg, hgh, by rw [marksE_length]; exact hle, HW.out, by rw [marksE_length]; exact HA.out⟩⟩, marksE_fit k j⟩, HR2.out, by rw [rowOf_pos h0]; exact HB.out⟩
set_option maxHeartbeats 2000000 in
theorem markAffixS_any (lo hi k : Nat) (w : World) (v : Value) (n : Nat) (C : (Nat → Value) → Prop) (h : RowOwn 77 5 lo hi w v n C) (hn : n ≤ 2000000000) (hk : k ≤ 100000000000) (hlo : lo ≤ w.heap.size) :
    Calls Tryz.prog 40 #[v, .int .i64 k] w fun e w' => e = .returned (.int .i64 ((k + n * 5 : Nat) : Int)) ∧ AffsOwn lo hi w' v (marksA k n) ∧ Wr lo hi w w' ∧ w.grownBy w' (rowOf v n) := by
  obtain ⟨a, cap, rfl, hc, hm, hh⟩ := h
  have HC : Hid (cap ≤ maxLen) := hm
  unfold maxLen at hm
  by_cases h0 : n = 0
  · subst h0
    clear hh
    have HR : Hid (AffsOwn lo hi w (.slice a 0 cap) (marksA k 0)) := ⟨⟨a, cap, rfl, hc, HC.out, fun hh => absurd rfl hh⟩, marksA_fit k 0⟩
    go_enter Tryz.func40, Tryz.ntmps40
    go_wp2
    go_loopw [1, 5] (fun kv i wr => kv = .int .i64 k ∧ i = .int .i64 0 ∧ wr = w) (fun _ i _ => 0)
    case atStart => exact ⟨rfl, rfl, rfl⟩
    case round =>
      obtain ⟨rfl, rfl, rfl⟩ := hrel
      go_wp2
      go_ret
      exact ⟨by simp, HR.out, Wr.refl _ _ _, grown_refl _ _⟩
  · obtain ⟨g, m, f0, rfl, hg, hgh, hle, hr, _⟩ := hh h0
    have HR : Hid (w.rowIs g 77 m f0) := hr
    clear hr hh
    go_enter Tryz.func40, Tryz.ntmps40
    go_wp2
    go_loopw [1, 5] (fun kv i wr => ∃ (j : Nat) (f : Nat → Value), j ≤ n ∧ kv = .int .i64 (k + j * 5) ∧ i = .int .i64 j ∧ wr.rowIs g 77 m f ∧ AffsTo j (marksA k n) f ∧ Wr lo hi w wr ∧ w.grownBy wr (some g)) (fun _ i _ => n - (intOf i).toNat)
    case atStart => exact ⟨0, f0, Nat.zero_le _, by simp, rfl, HR.out, fun j x hj => absurd hj (by omega), Wr.refl _ _ _, grown_refl _ _⟩
    case round =>
      obtain ⟨j, f, hj, rfl, rfl, hr, ha, hw, hb⟩ := hrel
      have HB : Hid (w.grownBy wr (some g)) := hb
      have HW : Hid (wr.rowIs g 77 m f) := hr
      have HA : Hid (AffsTo j (marksA k n) f) := ha
      have HR2 : Hid (Wr lo hi w wr) := hw
      have hlr : lo ≤ wr.heap.size := Nat.le_trans hlo hw.sz
      clear hb hr ha hw
      by_cases hlt : j < n
      · have HX : Hid ((marksA k n)[j]? = some (markA (k + j * 5))) := marksA_at hlt
        have hm0 := markT_size (k + j * 5)
        have hm2 := markT_size (k + j * 5 + 2)
        have hm3 := markT_size (k + j * 5 + 3)
        have hm4 := markT_size (k + j * 5 + 4)
        go_wp2_with fail
        refine (markText_int _ (k + j * 5) (by push_cast; omega) (by omega) _).mono ?_
        rintro e w1 ⟨rfl, hb1⟩
        have HW1 : Hid (w1.rowIs g 77 m f) := HW.out.of_block (hb1.block g HW.out.lt)
        have HR3 : Hid (Wr lo hi w w1) := HR2.out.trans (Wr.of_below hb1 hlr)
        have HB1 : Hid (w.grownBy w1 (some g)) := grown_trans HB.out (grown_of_below _ hb1)
        have hl1 : lo ≤ w1.heap.size := Nat.le_trans hlr hb1.size
        have d0 := HW1.out.cell (i := j * 5) (by omega)
        have g0 := HW1.out.frozen (j * 5)
        have d1 := HW1.out.cell (i := j * 5 + 1) (by omega)
        have g1 := HW1.out.frozen (j * 5 + 1)
        clear hb1
        go_wp2_with fail
        refine (markText_int _ (k + j * 5 + 2) (by push_cast; omega) (by omega) _).mono ?_
        rintro e w2 ⟨rfl, hb2⟩
        have HWs : Hid (((w1.setCell ⟨g, j * 5, none⟩ (.string (markT (k + j * 5)))).setCell ⟨g, j * 5 + 1, none⟩ (.bool (decide (((k : Int) + (j : Int) * 5 + 1) % 3 = 0)))).rowIs g 77 m (fun i => if i = j * 5 + 1 then .bool (decide (((k : Int) + (j : Int) * 5 + 1) % 3 = 0)) else if i = j * 5 then .string (markT (k + j * 5)) else f i)) := (HW1.out.set _ _).set _ _
        have HW2 : Hid (w2.rowIs g 77 m (fun i => if i = j * 5 + 1 then .bool (decide (((k : Int) + (j : Int) * 5 + 1) % 3 = 0)) else if i = j * 5 then .string (markT (k + j * 5)) else f i)) := HWs.out.of_block (hb2.block g HWs.out.lt)
        have HR4 : Hid (Wr lo hi w w2) := ((HR3.out.trans (Wr.set w1 (p := ⟨g, j * 5, none⟩) hg hgh rfl _)).trans (Wr.set _ (p := ⟨g, j * 5 + 1, none⟩) hg hgh rfl _)).trans (Wr.of_below hb2 (by rw [Go.Deep.nblk_setCell, Go.Deep.nblk_setCell]; exact hl1))
        have HB2 : Hid (w.grownBy w2 (some g)) := grown_trans (grown_trans (grown_trans HB1.out (grown_set _ _ _ _)) (grown_set _ _ _ _)) (grown_of_below _ hb2)
        have hl2 : lo ≤ w2.heap.size := by have := hb2.size; rw [Go.Deep.nblk_setCell, Go.Deep.nblk_setCell] at this; omega
        have d2 := HW2.out.cell (i := j * 5 + 2) (by omega)
        have g2 := HW2.out.frozen (j * 5 + 2)
        clear hb2 d0 g0 d1 g1
        go_wp2_with fail
        refine (markText_int _ (k + j * 5 + 3) (by push_cast; omega) (by omega) _).mono ?_
        rintro e w3 ⟨rfl, hb3⟩
        have HWt : Hid ((w2.setCell ⟨g, j * 5 + 2, none⟩ (.string (markT (k + j * 5 + 2)))).rowIs g 77 m (fun i => if i = j * 5 + 2 then .string (markT (k + j * 5 + 2)) else if i = j * 5 + 1 then .bool (decide (((k : Int) + (j : Int) * 5 + 1) % 3 = 0)) else if i = j * 5 then .string (markT (k + j * 5)) else f i)) := HW2.out.set _ _
        have HW3 : Hid (w3.rowIs g 77 m (fun i => if i = j * 5 + 2 then .string (markT (k + j * 5 + 2)) else if i = j * 5 + 1 then .bool (decide (((k : Int) + (j : Int) * 5 + 1) % 3 = 0)) else if i = j * 5 then .string (markT (k + j * 5)) else f i)) := HWt.out.of_block (hb3.block g HWt.out.lt)
        have HR5 : Hid (Wr lo hi w w3) := (HR4.out.trans (Wr.set w2 (p := ⟨g, j * 5 + 2, none⟩) hg hgh rfl _)).trans (Wr.of_below hb3 (by rw [Go.Deep.nblk_setCell]; exact hl2))
        have HB3 : Hid (w.grownBy w3 (some g)) := grown_trans (grown_trans HB2.out (grown_set _ _ _ _)) (grown_of_below _ hb3)
        have hl3 : lo ≤ w3.heap.size := by have := hb3.size; rw [Go.Deep.nblk_setCell] at this; omega
        have d3 := HW3.out.cell (i := j * 5 + 3) (by omega)
        have g3 := HW3.out.frozen (j * 5 + 3)
        clear hb3 d2 g2
        go_wp2_with fail
        refine (markText_int _ (k + j * 5 + 4) (by push_cast; omega) (by omega) _).mono ?_
        rintro e w4 ⟨rfl, hb4⟩
        have HWu : Hid ((w3.setCell ⟨g, j * 5 + 3, none⟩ (.string (markT (k + j * 5 + 3)))).rowIs g 77 m (fun i => if i = j * 5 + 3 then .string (markT (k + j * 5 + 3)) else if i = j * 5 + 2 then .string (markT (k + j * 5 + 2)) else if i = j * 5 + 1 then .bool (decide (((k : Int) + (j : Int) * 5 + 1) % 3 = 0)) else if i = j * 5 then .string (markT (k + j * 5)) else f i)) := HW3.out.set _ _
        have HW4 : Hid (w4.rowIs g 77 m (fun i => if i = j * 5 + 3 then .string (markT (k + j * 5 + 3)) else if i = j * 5 + 2 then .string (markT (k + j * 5 + 2)) else if i = j * 5 + 1 then .bool (decide (((k : Int) + (j : Int) * 5 + 1) % 3 = 0)) else if i = j * 5 then .string (markT (k + j * 5)) else f i)) := HWu.out.of_block (hb4.block g HWu.out.lt)
        have HR6 : Hid (Wr lo hi w w4) := (HR5.out.trans (Wr.set w3 (p := ⟨g, j * 5 + 3, none⟩) hg hgh rfl _)).trans (Wr.of_below hb4 (by rw [Go.Deep.nblk_setCell]; exact hl3))
        have HB4 : Hid (w.grownBy w4 (some g)) := grown_trans (grown_trans HB3.out (grown_set _ _ _ _)) (grown_of_below _ hb4)
        have d4 := HW4.out.cell (i := j * 5 + 4) (by omega)
        have g4 := HW4.out.frozen (j * 5 + 4)
        clear hb4 d3 g3
        go_wp2
        go_roundw
        case rel =>
          refine ⟨j + 1, _, by omega, by go_num, by go_num, HW4.out.set (j * 5 + 4) _, ?_, HR6.out.trans (Wr.set w4 (p := ⟨g, j * 5 + 4, none⟩) hg hgh rfl _), grown_trans HB4.out (grown_set _ _ _ _)⟩
          have hnx := HA.out.next HX.out
          have e1 : (markA (k + j * 5)).front = decide (((k : Int) + (j : Int) * 5 + 1) % 3 = 0) := by unfold markA; push_cast; rfl
          rw [e1] at hnx
          exact hnx
        case measure => simp [intOf]; omega
      · have hje : j = n := by omega
        subst hje
        go_wp2
        go_ret
        refine ⟨by push_cast; rfl, ⟨⟨_, cap, by rw [marksA_length], by rw [marksA_length]; exact hc, HC.out, fun _ => ⟨g, m, f, rfl, hg, hgh, by rw [marksA_length]; exact hle, HW.out, by rw [marksA_length]; exact HA.out⟩⟩, marksA_fit k j⟩, HR2.out, by rw [rowOf_pos h0]; exact HB.out⟩
set_option maxHeartbeats 1000000 in
theorem toAffixS_own (w : World) (v : Value) (xs : List Aff) (h : AffsAt w v xs) (hn : xs.length ≤ 1048576) :
    Calls Tryz.prog 35 #[v] w fun e w' => e = .returned (.slice (some ⟨w.heap.size, 0, none⟩) xs.length xs.length) ∧ AffsOwn w.heap.size w'.heap.size w' (.slice (some ⟨w.heap.size, 0, none⟩) xs.length xs.length) xs ∧ Below w.heap.size w w' := by
  obtain ⟨a, cap, rfl, hc, hm⟩ := h.form
  have HS : Hid (AffsAt w (.slice a xs.length cap) xs) := h
  clear h
  have hmk := run_make7 Tryz.prog 23 77 _ _ _ Tryz.underlying23 Tryz.info_affix xs.length (by omega) (by omega)
  obtain ⟨f0, hf0⟩ := rowIs_made7 w #[.string ⟨#[]⟩, .bool false, .string ⟨#[]⟩, .string ⟨#[]⟩, .string ⟨#[]⟩] (xs.length * 5) 77
  have HF : Hid ((w.alloc (.cells (madeCells #[.string ⟨#[]⟩, .bool false, .string ⟨#[]⟩, .string ⟨#[]⟩, .string ⟨#[]⟩] (xs.length * 5)) 77)).rowIs w.heap.size 77 (xs.length * 5) f0) := hf0
  clear hf0
  go_enter Tryz.func35, Tryz.ntmps35
  go_wp2
  go_loopw [4] (fun i wr => ∃ (k : Nat) (f : Nat → Value), k ≤ xs.length ∧ i = .int .i64 k ∧ wr.rowIs w.heap.size 77 (xs.length * 5) f ∧ AffsTo k xs f ∧ Below w.heap.size w wr) (fun i _ => xs.length - (intOf i).toNat)
  case atStart => exact ⟨0, f0, Nat.zero_le _, rfl, HF.out, fun j s hj => absurd hj (by omega), (Below.refl _ _).alloc (Nat.le_refl _) _⟩
  case round =>
    obtain ⟨k, f, hk, rfl, hrow, hall, hb⟩ := hrel
    have HA : Hid (AffsTo k xs f) := hall
    have HB : Hid (Below w.heap.size w wr) := hb
    have HW : Hid (wr.rowIs w.heap.size 77 (xs.length * 5) f) := hrow
    clear hall hb hrow
    by_cases hlt : k < xs.length
    · obtain ⟨b, off, cap', x, hv, hbl, hx, hxf, e0, e1, e2, e3, e4⟩ := (HS.out.below HB.out).at hlt
      cases hv
      have HX : Hid (xs[k]? = some x) := hx
      obtain ⟨fl, fr, st, ad, wh⟩ := x
      simp only at e0 e1 e2 e3 e4
      clear hx hxf
      go_wp2_with fail
      refine (toAffix_any ⟨fl, fr, st, ad, wh⟩ _).mono ?_
      rintro e w' ⟨rfl, hb'⟩
      unfold Aff.cells
      have HW' : Hid (w'.rowIs w.heap.size 77 (xs.length * 5) f) := rowIs_below7 HW.out hb'
      have HB' : Hid (Below w.heap.size w w') := HB.out.trans (hb'.mono HB.out.size)
      have d0 := HW'.out.cell (i := k * 5) (by omega)
      have d1 := HW'.out.cell (i := k * 5 + 1) (by omega)
      have d2 := HW'.out.cell (i := k * 5 + 2) (by omega)
      have d3 := HW'.out.cell (i := k * 5 + 3) (by omega)
      have d4 := HW'.out.cell (i := k * 5 + 4) (by omega)
      have g0 := HW'.out.frozen (k * 5)
      have g1 := HW'.out.frozen (k * 5 + 1)
      have g2 := HW'.out.frozen (k * 5 + 2)
      have g3 := HW'.out.frozen (k * 5 + 3)
      have g4 := HW'.out.frozen (k * 5 + 4)
      clear hb' e0 e1 e2 e3 e4
      go_wp2
      go_roundw
      case rel => exact ⟨k + 1, _, by omega, by go_num, rowIs_set5 HW'.out k _ _ _ _ _, HA.out.next HX.out, ((((HB'.out.setCell (Nat.le_refl _) _).setCell (Nat.le_refl _) _).setCell (Nat.le_refl _) _).setCell (Nat.le_refl _) _).setCell (Nat.le_refl _) _⟩
      case measure => simp [intOf]; omega
    · obtain rfl : k = xs.length := by omega
      go_wp2
      go_ret
      exact ⟨rfl, ⟨⟨_, _, rfl, Nat.le_refl _, by unfold maxLen; omega, fun _ => ⟨w.heap.size, _, f, rfl, Nat.le_refl _, HW.out.lt, Nat.le_refl _, HW.out, HA.out⟩⟩, HS.out.fit⟩, HB.out⟩
set_option maxHeartbeats 1000000 in
theorem toEntryS_own (w : World) (v : Value) (es : List (ByteArray × ByteArray)) (h : EntsAt w v es) (hn : es.length ≤ 1048576) :
    Calls Tryz.prog 36 #[v] w fun e w' => e = .returned (.slice (some ⟨w.heap.size, 0, none⟩) es.length es.length) ∧ EntsOwn w.heap.size w'.heap.size w' (.slice (some ⟨w.heap.size, 0, none⟩) es.length es.length) es ∧ Below w.heap.size w w' := by
  obtain ⟨a, cap, rfl, hc, hm⟩ := h.form
  have HS : Hid (EntsAt w (.slice a es.length cap) es) := h
  clear h
  have hmk := run_make7 Tryz.prog 24 80 _ _ _ Tryz.underlying24 Tryz.info_entry es.length (by omega) (by omega)
  obtain ⟨f0, hf0⟩ := rowIs_made7 w #[.string ⟨#[]⟩, .string ⟨#[]⟩] (es.length * 2) 80
  have HF : Hid ((w.alloc (.cells (madeCells #[.string ⟨#[]⟩, .string ⟨#[]⟩] (es.length * 2)) 80)).rowIs w.heap.size 80 (es.length * 2) f0) := hf0
  clear hf0
  go_enter Tryz.func36, Tryz.ntmps36
  go_wp2
  go_loopw [4] (fun i wr => ∃ (k : Nat) (f : Nat → Value), k ≤ es.length ∧ i = .int .i64 k ∧ wr.rowIs w.heap.size 80 (es.length * 2) f ∧ EntsTo k es f ∧ Below w.heap.size w wr) (fun i _ => es.length - (intOf i).toNat)
  case atStart => exact ⟨0, f0, Nat.zero_le _, rfl, HF.out, fun j s hj => absurd hj (by omega), (Below.refl _ _).alloc (Nat.le_refl _) _⟩
  case round =>
    obtain ⟨k, f, hk, rfl, hrow, hall, hb⟩ := hrel
    have HA : Hid (EntsTo k es f) := hall
    have HB : Hid (Below w.heap.size w wr) := hb
    have HW : Hid (wr.rowIs w.heap.size 80 (es.length * 2) f) := hrow
    clear hall hb hrow
    by_cases hlt : k < es.length
    · obtain ⟨b, off, cap', x, hv, hbl, hx, hxf, e0, e1⟩ := (HS.out.below HB.out).at hlt
      cases hv
      have HX : Hid (es[k]? = some x) := hx
      obtain ⟨s, fl⟩ := x
      simp only at e0 e1
      clear hx hxf
      go_wp2_with fail
      refine (toEntry_any s fl _).mono ?_
      rintro e w' ⟨rfl, hb'⟩
      have HW' : Hid (w'.rowIs w.heap.size 80 (es.length * 2) f) := rowIs_below7 HW.out hb'
      have HB' : Hid (Below w.heap.size w w') := HB.out.trans (hb'.mono HB.out.size)
      have d0 := HW'.out.cell (i := k * 2) (by omega)
      have d1 := HW'.out.cell (i := k * 2 + 1) (by omega)
      have g0 := HW'.out.frozen (k * 2)
      have g1 := HW'.out.frozen (k * 2 + 1)
      clear hb' e0 e1
      go_wp2
      go_roundw
      case rel => exact ⟨k + 1, _, by omega, by go_num, rowIs_set7 HW'.out k _ _, HA.out.next HX.out, (HB'.out.setCell (Nat.le_refl _) _).setCell (Nat.le_refl _) _⟩
      case measure => simp [intOf]; omega
    · obtain rfl : k = es.length := by omega
      go_wp2
      go_ret
      exact ⟨rfl, ⟨⟨_, _, rfl, Nat.le_refl _, by unfold maxLen; omega, fun _ => ⟨w.heap.size, _, f, rfl, Nat.le_refl _, HW.out.lt, Nat.le_refl _, HW.out, HA.out⟩⟩, HS.out.fit⟩, HB.out⟩
end Go.Proofs.YthedglgljehmgaaGreatDoor
