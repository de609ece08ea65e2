/-
  Entries and affixes held against their marks; changes in one form.
-/
import Derived.Test.YtfpkphkgnolkkaaW142
import Derived.Test.YtfpkphkgnolkkaaW111
import Derived.Deep.RegionHeld3
namespace Go.Proofs.Ytfpkphkgnolkkaa
open Go.RowKit
set_option linter.unusedVariables false
set_option maxHeartbeats 2000000 in
theorem heldEntryS_x (w : World) (v : Value) (k : Nat) (x : List (ByteArray × ByteArray)) (h : EntsAt w v (marksE k x.length)) (hs : x.length ≤ 1048576) (hk : k ≤ 1000000000) :
    Calls Try.prog 29 #[v, .int .i64 k] w fun e w' => e = .returned (.int .i64 ((k + x.length * 2 : Nat) : Int)) ∧ Below w.heap.size w w' := by
  obtain ⟨a, cap, rfl, hc, hm⟩ := h.form
  rw [marksE_length] at hc h ⊢
  generalize hn : x.length = n at *
  clear hn
  have HS : Hid (EntsAt w (.slice a n cap) (marksE k n)) := h
  clear h
  unfold maxLen at hm
  go_enter Try.func29, Try.ntmps29
  go_wp2
  go_loopw [1, 5] (fun kv i wr => ∃ (j : Nat), j ≤ n ∧ kv = .int .i64 (k + j * 2) ∧ i = .int .i64 j ∧ Below w.heap.size w wr) (fun _ i _ => n - (intOf i).toNat)
  case atStart => exact ⟨0, Nat.zero_le _, by simp, rfl, Below.refl _ _⟩
  case round =>
    obtain ⟨j, hj, rfl, rfl, hb⟩ := hrel
    have HB0 : Hid (Below w.heap.size w wr) := hb
    clear hb
    by_cases hlt : j < n
    · have i0 : (0 : Int) ≤ (j : Int) := by omega
      have i1 : (j : Int) < (n : Int) := by omega
      obtain ⟨b, off, cap1, s, hv, hbl, hs2, hfit, c0_0, c0_1⟩ := (HS.out.below HB0.out).at (k := j) (by rw [marksE_length]; exact hlt)
      rw [marksE_length] at hv
      cases hv
      rw [marksE_at hlt] at hs2
      cases hs2
      clear hfit
      have hm0 := markT_size (k + j * 2)
      have hm1 := markT_size (k + j * 2 + 1)
      go_wp2_with fail
      go_region_held3 (fun w' => w'.cell? ⟨b, off + j * 2, none⟩ = some (.string (markT (k + j * 2))) ∧ w'.cell? ⟨b, off + j * 2 + 1, none⟩ = some (.string (markT (k + j * 2 + 1)))) (go_keep)
        ((go_at_call 27; refine (markText_int _ (k + j * 2) (by push_cast; omega) (by omega) _).mono ?_; rintro e w1 ⟨rfl, hb1⟩; have HB1 : Hid (Below w.heap.size w w1) := HB0.out.drew.trans (hb1.mono HB0.out.size); have c1_0 := (hb1.cell (p := ⟨b, off + j * 2, none⟩) hbl).trans c0_0; have c1_1 := (hb1.cell (p := ⟨b, off + j * 2 + 1, none⟩) hbl).trans c0_1; have hbl1 : b < w1.heap.size := Nat.lt_of_lt_of_le hbl hb1.size; clear hb1 c0_0 c0_1))
      go_wp2_with fail
      go_region_held3 (fun w' => w'.cell? ⟨b, off + j * 2 + 1, none⟩ = some (.string (markT (k + j * 2 + 1)))) (go_keep)
        ((go_at_call 27; refine (markText_int _ (k + j * 2 + 1) (by push_cast; omega) (by omega) _).mono ?_; rintro e w2 ⟨rfl, hb2⟩; have HB2 : Hid (Below w.heap.size w w2) := HB1.out.drew.trans (hb2.mono HB1.out.size); have c2_1 := (hb2.cell (p := ⟨b, off + j * 2 + 1, none⟩) hbl1).trans c1_1; have hbl2 : b < w2.heap.size := Nat.lt_of_lt_of_le hbl1 hb2.size; clear hb2 c1_1))
      go_wp2
      go_roundw
      case rel => exact ⟨j + 1, by omega, by go_num, by go_num, HB2.out⟩
      case measure => simp [intOf]; omega
    · have hje : j = n := by omega
      subst hje
      go_wp2
      go_ret
      exact ⟨by push_cast; rfl, HB0.out⟩
set_option maxHeartbeats 2000000 in
theorem heldAffixS_x (w : World) (v : Value) (k : Nat) (x : List Aff) (h : AffsAt w v (marksA k x.length)) (hs : x.length ≤ 1048576) (hk : k ≤ 1000000000) :
    Calls Try.prog 28 #[v, .int .i64 k] w fun e w' => e = .returned (.int .i64 ((k + x.length * 5 : Nat) : Int)) ∧ Below w.heap.size w w' := by
  obtain ⟨a, cap, rfl, hc, hm⟩ := h.form
  rw [marksA_length] at hc h ⊢
  generalize hn : x.length = n at *
  clear hn
  have HS : Hid (AffsAt w (.slice a n cap) (marksA k n)) := h
  clear h
  unfold maxLen at hm
  go_enter Try.func28, Try.ntmps28
  go_wp2
  go_loopw [1, 5] (fun kv i wr => ∃ (j : Nat), j ≤ n ∧ kv = .int .i64 (k + j * 5) ∧ i = .int .i64 j ∧ Below w.heap.size w wr) (fun _ i _ => n - (intOf i).toNat)
  case atStart => exact ⟨0, Nat.zero_le _, by simp, rfl, Below.refl _ _⟩
  case round =>
    obtain ⟨j, hj, rfl, rfl, hb⟩ := hrel
    have HB0 : Hid (Below w.heap.size w wr) := hb
    clear hb
    by_cases hlt : j < n
    · have i0 : (0 : Int) ≤ (j : Int) := by omega
      have i1 : (j : Int) < (n : Int) := by omega
      obtain ⟨b, off, cap1, s, hv, hbl, hs2, hfit, c0_0, c0_1, c0_2, c0_3, c0_4⟩ := (HS.out.below HB0.out).at (k := j) (by rw [marksA_length]; exact hlt)
      rw [marksA_length] at hv
      cases hv
      rw [marksA_at hlt] at hs2
      cases hs2
      simp only [markA] at c0_0 c0_1 c0_2 c0_3 c0_4
      push_cast at c0_1
      rcases Classical.em (((k : Int) + (j : Int) * 5 + 1) % 3 = 0) with h3 | h3
      all_goals
        simp only [h3, decide_true, decide_false] at c0_1
        clear hfit
        have hm0 := markT_size (k + j * 5)
        have hm2 := markT_size (k + j * 5 + 2)
        have hm3 := markT_size (k + j * 5 + 3)
        have hm4 := markT_size (k + j * 5 + 4)
        go_wp2_with fail
        go_region_held3 (fun w' => w'.cell? ⟨b, off + j * 5, none⟩ = some (.string (markT (k + j * 5))) ∧ w'.cell? ⟨b, off + j * 5 + 2, none⟩ = some (.string (markT (k + j * 5 + 2))) ∧ w'.cell? ⟨b, off + j * 5 + 3, none⟩ = some (.string (markT (k + j * 5 + 3))) ∧ w'.cell? ⟨b, off + j * 5 + 4, none⟩ = some (.string (markT (k + j * 5 + 4)))) (go_keep)
          ((go_at_call 27; refine (markText_int _ (k + j * 5) (by push_cast; omega) (by omega) _).mono ?_; rintro e w1 ⟨rfl, hb1⟩; have HB1 : Hid (Below w.heap.size w w1) := HB0.out.drew.trans (hb1.mono HB0.out.size); have c1_0 := (hb1.cell (p := ⟨b, off + j * 5, none⟩) hbl).trans c0_0; have c1_1 := (hb1.cell (p := ⟨b, off + j * 5 + 1, none⟩) hbl).trans c0_1; have c1_2 := (hb1.cell (p := ⟨b, off + j * 5 + 2, none⟩) hbl).trans c0_2; have c1_3 := (hb1.cell (p := ⟨b, off + j * 5 + 3, none⟩) hbl).trans c0_3; have c1_4 := (hb1.cell (p := ⟨b, off + j * 5 + 4, none⟩) hbl).trans c0_4; have hbl1 : b < w1.heap.size := Nat.lt_of_lt_of_le hbl hb1.size; clear hb1 c0_0 c0_1 c0_2 c0_3 c0_4))
        go_wp2_with fail
        go_region_held3 (fun w' => w'.cell? ⟨b, off + j * 5 + 2, none⟩ = some (.string (markT (k + j * 5 + 2))) ∧ w'.cell? ⟨b, off + j * 5 + 3, none⟩ = some (.string (markT (k + j * 5 + 3))) ∧ w'.cell? ⟨b, off + j * 5 + 4, none⟩ = some (.string (markT (k + j * 5 + 4)))) (go_keep)
          ((go_at_call 27; refine (markText_int _ (k + j * 5 + 2) (by push_cast; omega) (by omega) _).mono ?_; rintro e w2 ⟨rfl, hb2⟩; have HB2 : Hid (Below w.heap.size w w2) := HB1.out.drew.trans (hb2.mono HB1.out.size); have c2_2 := (hb2.cell (p := ⟨b, off + j * 5 + 2, none⟩) hbl1).trans c1_2; have c2_3 := (hb2.cell (p := ⟨b, off + j * 5 + 3, none⟩) hbl1).trans c1_3; have c2_4 := (hb2.cell (p := ⟨b, off + j * 5 + 4, none⟩) hbl1).trans c1_4; have hbl2 : b < w2.heap.size := Nat.lt_of_lt_of_le hbl1 hb2.size; clear hb2 c1_2 c1_3 c1_4))
        go_wp2_with fail
        go_region_held3 (fun w' => w'.cell? ⟨b, off + j * 5 + 3, none⟩ = some (.string (markT (k + j * 5 + 3))) ∧ w'.cell? ⟨b, off + j * 5 + 4, none⟩ = some (.string (markT (k + j * 5 + 4)))) (go_keep)
          ((go_at_call 27; refine (markText_int _ (k + j * 5 + 3) (by push_cast; omega) (by omega) _).mono ?_; rintro e w3 ⟨rfl, hb3⟩; have HB3 : Hid (Below w.heap.size w w3) := HB2.out.drew.trans (hb3.mono HB2.out.size); have c3_3 := (hb3.cell (p := ⟨b, off + j * 5 + 3, none⟩) hbl2).trans c2_3; have c3_4 := (hb3.cell (p := ⟨b, off + j * 5 + 4, none⟩) hbl2).trans c2_4; have hbl3 : b < w3.heap.size := Nat.lt_of_lt_of_le hbl2 hb3.size; clear hb3 c2_3 c2_4))
        go_wp2_with fail
        go_region_held3 (fun w' => w'.cell? ⟨b, off + j * 5 + 4, none⟩ = some (.string (markT (k + j * 5 + 4)))) (go_keep)
          ((go_at_call 27; refine (markText_int _ (k + j * 5 + 4) (by push_cast; omega) (by omega) _).mono ?_; rintro e w4 ⟨rfl, hb4⟩; have HB4 : Hid (Below w.heap.size w w4) := HB3.out.drew.trans (hb4.mono HB3.out.size); have c4_4 := (hb4.cell (p := ⟨b, off + j * 5 + 4, none⟩) hbl3).trans c3_4; have hbl4 : b < w4.heap.size := Nat.lt_of_lt_of_le hbl3 hb4.size; clear hb4 c3_4))
        go_wp2
        go_roundw
        case rel => exact ⟨j + 1, by omega, by go_num, by go_num, HB4.out⟩
        case measure => simp [intOf]; omega
    · have hje : j = n := by omega
      subst hje
      go_wp2
      go_ret
      exact ⟨by push_cast; rfl, HB0.out⟩
/-- Changes: what goes, what comes, whether affixes change, which. -/
abbrev DeltaM := List ByteArray × List (ByteArray × ByteArray) × Bool × List Aff
def DeltaAt (w : World) (v : Value) (x : DeltaM) : Prop := ∃ vg vc vl, v = .agg #[vg, vc, .bool x.2.2.1, vl] ∧ TextsAt w vg x.1 ∧ EntsAt w vc x.2.1 ∧ AffsAt w vl x.2.2.2
def DeltaOwn (lo hi : Nat) (w : World) (v : Value) (x : DeltaM) : Prop := ∃ vg vc vl, v = .agg #[vg, vc, .bool x.2.2.1, vl] ∧ TextsRow lo hi w vg x.1 ∧ EntsOwn lo hi w vc x.2.1 ∧ AffsOwn lo hi w vl x.2.2.2
def DeltaSm (x : DeltaM) : Prop := x.1.length ≤ 1048576 ∧ x.2.1.length ≤ 1048576 ∧ x.2.2.2.length ≤ 1048576
def deltaCnt (x : DeltaM) : Nat := x.1.length + x.2.1.length * 2 + x.2.2.2.length * 5
def deltaMk (k : Nat) (x : DeltaM) : DeltaM := (marks k x.1.length, marksE (k + x.1.length) x.2.1.length, x.2.2.1, marksA (k + x.1.length + x.2.1.length * 2) x.2.2.2.length)
theorem DeltaAt.form {w : World} {v : Value} {x : DeltaM} (h : DeltaAt w v x) : ∃ a b c d, v = .agg #[a, b, c, d] := by obtain ⟨vg, vc, vl, hv, _⟩ := h; exact ⟨_, _, _, _, hv⟩
theorem DeltaAt.form2 {w : World} {v : Value} {x : DeltaM} (h : DeltaAt w v x) : ∃ a n c a' n' c' b a'' n'' c'', v = .agg #[.slice a n c, .slice a' n' c', .bool b, .slice a'' n'' c''] := by
  obtain ⟨vg, vc, vl, rfl, h1, h2, h3⟩ := h
  obtain ⟨a, c, rfl, _⟩ := h1.form
  obtain ⟨a', c', rfl, _⟩ := h2.form
  obtain ⟨a'', c'', rfl, _⟩ := h3.form
  exact ⟨_, _, _, _, _, _, _, _, _, _, rfl⟩
theorem DeltaAt.below {w w' : World} {v : Value} {x : DeltaM} (h : DeltaAt w v x) (hb : Below w.heap.size w w') : DeltaAt w' v x := by
  obtain ⟨vg, vc, vl, hv, h1, h2, h3⟩ := h
  exact ⟨vg, vc, vl, hv, h1.below hb, h2.below hb, h3.below hb⟩
theorem DeltaOwn.at {lo hi : Nat} {w : World} {v : Value} {x : DeltaM} (h : DeltaOwn lo hi w v x) : DeltaAt w v x := by
  obtain ⟨vg, vc, vl, hv, h1, h2, h3⟩ := h
  exact ⟨vg, vc, vl, hv, h1.at, h2.at, h3.at⟩
theorem DeltaOwn.below {lo hi : Nat} {w w' : World} {v : Value} {x : DeltaM} (h : DeltaOwn lo hi w v x) (hb : Below w.heap.size w w') : DeltaOwn lo hi w' v x := by
  obtain ⟨vg, vc, vl, hv, h1, h2, h3⟩ := h
  exact ⟨vg, vc, vl, hv, h1.below hb, h2.below hb, h3.below hb⟩
theorem DeltaOwn.wr {lo hi l h' : Nat} {w w' : World} {v : Value} {x : DeltaM} (h : DeltaOwn lo hi w v x) (hw : Wr l h' w w') (hl : h' ≤ lo) : DeltaOwn lo hi w' v x := by
  obtain ⟨vg, vc, vl, hv, h1, h2, h3⟩ := h
  exact ⟨vg, vc, vl, hv, h1.wr hw hl, h2.wr hw hl, h3.wr hw hl⟩
theorem box_cell {w w1 : World} {lo hi : Nat} {cs : Array Value} {t : TypeId} (hw : Wr lo hi (w.alloc (.cells cs t)) w1) (hlo : hi ≤ w.heap.size) (i : Nat) : w1.cell? ⟨w.heap.size, i, none⟩ = cs[i]? := by
  have hblk : w1.heap[w.heap.size]? = (w.alloc (.cells cs t)).heap[w.heap.size]? := hw.2.2.1 _ hlo (by simp)
  rw [cell_of_row _ _ i _ _ _ (hblk.trans (heap_alloc_last _ _))]
end Go.Proofs.Ytfpkphkgnolkkaa
