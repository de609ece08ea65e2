/-
  Releases in one form.
-/
import Derived.Test.YtcdgikhkjpneiaaGreatDoorGW144
import Derived.Test.YtcdgikhkjpneiaaGreatDoorW169
import Derived.Test.YtcdgikhkjpneiaaGreatDoorGW112
import Derived.Lib.LaidTab
import Derived.Shelf.Strconv.Itoa3
namespace Go.Proofs.YtcdgikhkjpneiaaGreatDoor
open Go.RowKit
set_option linter.unusedVariables false
/-- Releases: a number, a change, a sum, a seal. -/
abbrev ReleaseM := Int × DeltaM × ByteArray × ByteArray
def ReleaseAt (w : World) (v : Value) (x : ReleaseM) : Prop := ∃ vg vc vl, v = .agg #[.int .i64 x.1, vg, vc, .bool x.2.1.2.2.1, vl, .string x.2.2.1, .string x.2.2.2] ∧ TextsAt w vg x.2.1.1 ∧ EntsAt w vc x.2.1.2.1 ∧ AffsAt w vl x.2.1.2.2.2 ∧ x.2.2.1.size ≤ maxLen ∧ x.2.2.2.size ≤ maxLen ∧ powTab w
def ReleaseOwn (lo hi : Nat) (w : World) (v : Value) (x : ReleaseM) : Prop := ReleaseAt w v x
def ReleaseSm (x : ReleaseM) : Prop := DeltaSm x.2.1
theorem ReleaseAt.form2 {w : World} {v : Value} {x : ReleaseM} (h : ReleaseAt w v x) : ∃ n a l c a' l' c' b a'' l'' c'' s s', v = .agg #[.int .i64 n, .slice a l c, .slice a' l' c', .bool b, .slice a'' l'' c'', .string s, .string s'] := by
  obtain ⟨vg, vc, vl, rfl, h1, h2, h3, -⟩ := h
  obtain ⟨a, c, rfl, _⟩ := h1.form
  obtain ⟨a', c', rfl, _⟩ := h2.form
  obtain ⟨a'', c'', rfl, _⟩ := h3.form
  exact ⟨_, _, _, _, _, _, _, _, _, _, _, _, _, rfl⟩
theorem ReleaseAt.below {w w' : World} {v : Value} {x : ReleaseM} (h : ReleaseAt w v x) (hb : Below w.heap.size w w') : ReleaseAt w' v x := by
  obtain ⟨vg, vc, vl, hv, h1, h2, h3, h4, h5, h6⟩ := h
  exact ⟨vg, vc, vl, hv, h1.below hb, h2.below hb, h3.below hb, h4, h5, h6.below hb⟩
theorem ReleaseOwn.at {lo hi : Nat} {w : World} {v : Value} {x : ReleaseM} (h : ReleaseOwn lo hi w v x) : ReleaseAt w v x := h
theorem ReleaseOwn.below {lo hi : Nat} {w w' : World} {v : Value} {x : ReleaseM} (h : ReleaseOwn lo hi w v x) (hb : Below w.heap.size w w') : ReleaseOwn lo hi w' v x := ReleaseAt.below h hb
set_option maxHeartbeats 1000000 in
theorem szDelta_le (w : World) (vg vc vl : Value) (af : Bool) (gs : List ByteArray) (es : List (ByteArray × ByteArray)) (xs : List Aff) (left : Int) (hg : TextsAt w vg gs) (he : EntsAt w vc es) (ha : AffsAt w vl xs) (h0 : 0 ≤ left) (h1 : left ≤ 1048576) :
    Calls Tryz.prog 46 #[.agg #[vg, vc, .bool af, vl], .int .i64 left] w fun e w' => (∃ r : Int, e = .returned (.int .i64 r) ∧ r ≤ left ∧ (0 ≤ r → gs.length ≤ 1048576 ∧ es.length ≤ 1048576 ∧ xs.length ≤ 1048576)) ∧ Below w.heap.size w w' := by
  obtain ⟨a, cap, rfl, hc, hm⟩ := hg.form
  obtain ⟨a', cap', rfl, hc', hm'⟩ := he.form
  obtain ⟨a2, cap2, rfl, hc2, hm2⟩ := ha.form
  have HG : Hid (TextsAt w (.slice a gs.length cap) gs) := hg
  have HE : Hid (EntsAt w (.slice a' es.length cap') es) := he
  have HA : Hid (AffsAt w (.slice a2 xs.length cap2) xs) := ha
  clear hg he ha
  go_enter Tryz.func46, Tryz.ntmps46
  go_wp2_with fail
  refine (szStringS_any _ _ gs _ (HG.out.below ((Below.refl _ _).alloc (Nat.le_refl _) _)) (by omega) (by omega)).mono ?_
  rintro e w1 ⟨⟨r, rfl, hr1, hr2⟩, hb1⟩
  have HB1 : Hid (Below w.heap.size w w1) := Below.trans ((Below.refl _ _).alloc (Nat.le_refl _) _) (hb1.mono (by simp <;> omega))
  have HR : Hid (0 ≤ r → gs.length ≤ 1048576) := hr2
  have hcl : w1.cell? ⟨w.heap.size, 1, none⟩ = some (.slice a' es.length cap') := (hb1.cell (p := ⟨w.heap.size, 1, none⟩) (by simp)).trans (by simp [go_sem])
  have hcl3 : w1.cell? ⟨w.heap.size, 3, none⟩ = some (.slice a2 xs.length cap2) := (hb1.cell (p := ⟨w.heap.size, 3, none⟩) (by simp)).trans (by simp [go_sem])
  have hz : w.heap.size < w1.heap.size := by have := hb1.size; simp at this; omega
  clear hb1 hr2
  by_cases hr : r < 0
  · go_wp2
    go_ret
    exact ⟨⟨-1, rfl, by omega, by omega⟩, HB1.out⟩
  · go_wp2_with fail
    refine (szEntryS_any _ _ es _ (HE.out.below HB1.out) (by omega) (by omega)).mono ?_
    rintro e w2 ⟨⟨q, rfl, hq1, hq2⟩, hb2⟩
    have HB2 : Hid (Below w.heap.size w w2) := HB1.out.trans (hb2.mono HB1.out.size)
    have HQ : Hid (0 ≤ q → es.length ≤ 1048576) := hq2
    have hcl4 := (hb2.cell (p := ⟨w.heap.size, 3, none⟩) hz).trans hcl3
    clear hb2 hq2 hcl hcl3
    by_cases hq : q < 0
    · go_wp2
      go_ret
      exact ⟨⟨-1, rfl, by omega, by omega⟩, HB2.out⟩
    · go_wp2_with fail
      refine (szAffixS_any _ _ xs _ (HA.out.below HB2.out) (by omega) (by omega)).mono ?_
      rintro e w3 ⟨⟨p, rfl, hp1, hp2⟩, hb3⟩
      have HB3 : Hid (Below w.heap.size w w3) := HB2.out.trans (hb3.mono HB2.out.size)
      have HP : Hid (0 ≤ p → xs.length ≤ 1048576) := hp2
      clear hb3 hp2 hcl4
      by_cases hp : p < 0
      · go_wp2
        go_ret
        exact ⟨⟨-1, rfl, by omega, by omega⟩, HB3.out⟩
      · go_wp2
        go_ret
        exact ⟨⟨p, rfl, by omega, fun _ => ⟨HR.out (by omega), HQ.out (by omega), HP.out (by omega)⟩⟩, HB3.out⟩
set_option maxHeartbeats 1000000 in
theorem szRelease_u (w : World) (v : Value) (x : ReleaseM) (left : Int) (h : ReleaseAt w v x) (h0 : 0 ≤ left) (h1 : left ≤ 1048576) :
    Calls Tryz.prog 14 #[v, .int .i64 left] w fun e w' => (∃ r : Int, e = .returned (.int .i64 r) ∧ r ≤ left ∧ (0 ≤ r → ReleaseSm x)) ∧ Below w.heap.size w w' := by
  have g0 := h0
  have g1 := h1
  obtain ⟨vg, vc, vl, rfl, t1, t2, t3, tu, te, tb⟩ := h
  obtain ⟨a, c, rfl, -⟩ := t1.form
  obtain ⟨a1, c1, rfl, -⟩ := t2.form
  obtain ⟨a2, c2, rfl, -⟩ := t3.form
  obtain ⟨n, ⟨gs, es, af, xs⟩, su, se⟩ := x
  dsimp only [ReleaseSm] at *
  unfold maxLen at tu te
  have HD : Hid (TextsAt w (.slice a gs.length c) gs ∧ EntsAt w (.slice a1 es.length c1) es ∧ AffsAt w (.slice a2 xs.length c2) xs) := ⟨t1, t2, t3⟩
  have HB0 : Hid (Below w.heap.size w (w.alloc (.cells #[.int .i64 n, .slice a gs.length c, .slice a1 es.length c1, .bool af, .slice a2 xs.length c2, .string su, .string se] 47))) := (Below.refl _ _).alloc (Nat.le_refl _) _
  clear t1 t2 t3
  go_enter Tryz.func14, Tryz.ntmps14
  go_wp2_with fail
  refine (szDelta_le _ _ _ _ af gs es xs left (HD.out.1.below HB0.out) (HD.out.2.1.below HB0.out) (HD.out.2.2.below HB0.out) g0 g1).mono ?_
  rintro e w1 ⟨⟨r, rfl, hr1, hr2⟩, hb1⟩
  have HB1 : Hid (Below w.heap.size w w1) := HB0.out.trans (hb1.mono HB0.out.size)
  have HR : Hid (0 ≤ r → DeltaSm (gs, es, af, xs)) := hr2
  have k5 : w1.cell? ⟨w.heap.size, 5, none⟩ = some (.string su) := (hb1.cell (p := ⟨w.heap.size, 5, none⟩) (by simp)).trans (by simp [go_sem])
  have k6 : w1.cell? ⟨w.heap.size, 6, none⟩ = some (.string se) := (hb1.cell (p := ⟨w.heap.size, 6, none⟩) (by simp)).trans (by simp [go_sem])
  clear hb1 hr2
  by_cases hr : r < 0
  · go_wp2
    go_ret
    exact ⟨⟨-1, rfl, by omega, by omega⟩, HB1.out⟩
  · by_cases hq : r - su.size < 0
    · go_wp2
      go_ret
      exact ⟨⟨-1, rfl, by omega, by omega⟩, HB1.out⟩
    · by_cases hq2 : r - su.size - se.size < 0
      · go_wp2
        go_ret
        exact ⟨⟨-1, rfl, by omega, by omega⟩, HB1.out⟩
      · go_wp2
        go_ret
        exact ⟨⟨_, rfl, by omega, fun _ => HR.out (by omega)⟩, HB1.out⟩
set_option maxHeartbeats 1000000 in
theorem eqRelease_u (w : World) (v u : Value) (x : ReleaseM) (h : ReleaseAt w v x) (h' : ReleaseAt w u x) :
    Calls Tryz.prog 9 #[v, u] w fun e w' => e = .returned (.bool true) ∧ Below w.heap.size w w' := by
  obtain ⟨vg, vc, vl, rfl, h1, h2, h3, hu, he, tb⟩ := h
  obtain ⟨a, c, rfl, -⟩ := h1.form
  obtain ⟨a1, c1, rfl, -⟩ := h2.form
  obtain ⟨a2, c2, rfl, -⟩ := h3.form
  obtain ⟨n, ⟨gs, es, af, xs⟩, su, se⟩ := x
  dsimp only [ReleaseSm] at *
  obtain ⟨vg, vc, vl, rfl, g1, g2, g3, -⟩ := h'
  obtain ⟨b, d, rfl, -⟩ := g1.form
  obtain ⟨b1, d1, rfl, -⟩ := g2.form
  obtain ⟨b2, d2, rfl, -⟩ := g3.form
  dsimp only at *
  have HB0 : Hid (Below w.heap.size w ((w.alloc (.cells #[.int .i64 n, .slice a gs.length c, .slice a1 es.length c1, .bool af, .slice a2 xs.length c2, .string su, .string se] 33)).alloc (.cells #[.int .i64 n, .slice b gs.length d, .slice b1 es.length d1, .bool af, .slice b2 xs.length d2, .string su, .string se] 33))) := ((Below.refl _ _).alloc (Nat.le_refl _) _).alloc (by simp <;> omega) _
  have HD : Hid (TextsAt w (.slice a gs.length c) gs ∧ EntsAt w (.slice a1 es.length c1) es ∧ AffsAt w (.slice a2 xs.length c2) xs) := ⟨h1, h2, h3⟩
  have HG : Hid (TextsAt w (.slice b gs.length d) gs ∧ EntsAt w (.slice b1 es.length d1) es ∧ AffsAt w (.slice b2 xs.length d2) xs) := ⟨g1, g2, g3⟩
  clear h1 h2 h3 g1 g2 g3
  go_enter Tryz.func9, Tryz.ntmps9
  go_wp2_with fail
  refine (eqDelta_same _ _ _ _ _ _ _ af gs es xs (HD.out.1.below HB0.out) (HD.out.2.1.below HB0.out) (HD.out.2.2.below HB0.out) (HG.out.1.below HB0.out) (HG.out.2.1.below HB0.out) (HG.out.2.2.below HB0.out)).mono ?_
  rintro e w1 ⟨rfl, hb1⟩
  have HB1 : Hid (Below w.heap.size w w1) := HB0.out.trans (hb1.mono HB0.out.size)
  have k05 : w1.cell? ⟨w.heap.size, 5, none⟩ = some (.string su) := (hb1.cell (p := ⟨w.heap.size, 5, none⟩) (by simp <;> omega)).trans (by simp [go_sem])
  have k06 : w1.cell? ⟨w.heap.size, 6, none⟩ = some (.string se) := (hb1.cell (p := ⟨w.heap.size, 6, none⟩) (by simp <;> omega)).trans (by simp [go_sem])
  have k15 : w1.cell? ⟨w.heap.size + 1, 5, none⟩ = some (.string su) := (hb1.cell (p := ⟨w.heap.size + 1, 5, none⟩) (by simp <;> omega)).trans (by simp [go_sem])
  have k16 : w1.cell? ⟨w.heap.size + 1, 6, none⟩ = some (.string se) := (hb1.cell (p := ⟨w.heap.size + 1, 6, none⟩) (by simp <;> omega)).trans (by simp [go_sem])
  clear hb1
  go_wp2
  go_ret
  exact ⟨rfl, HB1.out⟩
set_option maxHeartbeats 2000000 in
theorem toDelta_blk (w : World) (vg vc vl : Value) (af : Bool) (gs : List ByteArray) (es : List (ByteArray × ByteArray)) (xs : List Aff) (hg : TextsAt w vg gs) (he : EntsAt w vc es) (ha : AffsAt w vl xs) (n1 : gs.length ≤ 1048576) (n2 : es.length ≤ 1048576) (n3 : xs.length ≤ 1048576) :
    Calls Tryz.prog 47 #[.agg #[vg, vc, .bool af, vl]] w fun e w' => ∃ g1 g2 g3 : Nat, e = .returned (.agg #[.slice (some ⟨g1, 0, none⟩) gs.length gs.length, .slice (some ⟨g2, 0, none⟩) es.length es.length, .bool af, .slice (some ⟨g3, 0, none⟩) xs.length xs.length]) ∧ w.heap.size ≤ g1 ∧ w.heap.size ≤ g2 ∧ w.heap.size ≤ g3 ∧ TextsAt w' (.slice (some ⟨g1, 0, none⟩) gs.length gs.length) gs ∧ EntsAt w' (.slice (some ⟨g2, 0, none⟩) es.length es.length) es ∧ AffsAt w' (.slice (some ⟨g3, 0, none⟩) xs.length xs.length) xs ∧ Below w.heap.size w w' := by
  obtain ⟨a, cap, rfl, hc, hm⟩ := hg.form
  obtain ⟨a', cap', rfl, hc', hm'⟩ := he.form
  obtain ⟨a2, cap2, rfl, hc2, hm2⟩ := ha.form
  have HG : Hid (TextsAt w (.slice a gs.length cap) gs) := hg
  have HE : Hid (EntsAt w (.slice a' es.length cap') es) := he
  have HA : Hid (AffsAt w (.slice a2 xs.length cap2) xs) := ha
  clear hg he ha hm hm' hm2 hc hc' hc2
  obtain ⟨W0, hW0⟩ : ∃ W0, ((w.alloc (.cells #[.slice a gs.length cap, .slice a' es.length cap', .bool af, .slice a2 xs.length cap2] 45)).alloc (.cells #[.slice none 0 0, .slice none 0 0, .bool false, .slice none 0 0] 31)).alloc (.cells #[.slice none 0 0, .slice none 0 0, .bool false, .slice none 0 0] 31) = W0 := ⟨_, rfl⟩
  have B0 : Below w.heap.size w W0 := by rw [← hW0]; exact (((Below.refl _ _).alloc (Nat.le_refl _) _).alloc (by simp) _).alloc (by simp <;> omega) _
  have Z0 : W0.heap.size = w.heap.size + 3 := by rw [← hW0]; simp
  have R0 : W0.rowIs w.heap.size 45 4 (fun i => #[Value.slice a gs.length cap, .slice a' es.length cap', .bool af, .slice a2 xs.length cap2][i]?.getD .nilFunc) := by
    rw [← hW0]
    exact rowIs_below7 (rowIs_new _ _) (((Below.refl _ _).alloc (Nat.le_refl _) _).alloc (by simp) _)
  have R1 : W0.rowIs (w.heap.size + 1) 31 4 (fun i => #[Value.slice none 0 0, .slice none 0 0, .bool false, .slice none 0 0][i]?.getD .nilFunc) := by
    rw [← hW0]
    have h := rowIs_new (w := w.alloc (.cells #[.slice a gs.length cap, .slice a' es.length cap', .bool af, .slice a2 xs.length cap2] 45)) #[.slice none 0 0, .slice none 0 0, .bool false, .slice none 0 0] 31
    rw [World.size_alloc] at h
    exact rowIs_below7 h ((Below.refl _ _).alloc (Nat.le_refl _) _)
  have R2 : W0.rowIs (w.heap.size + 1 + 1) 31 4 (fun i => #[Value.slice none 0 0, .slice none 0 0, .bool false, .slice none 0 0][i]?.getD .nilFunc) := by
    rw [← hW0]
    have h := rowIs_new (w := (w.alloc (.cells #[.slice a gs.length cap, .slice a' es.length cap', .bool af, .slice a2 xs.length cap2] 45)).alloc (.cells #[.slice none 0 0, .slice none 0 0, .bool false, .slice none 0 0] 31)) #[.slice none 0 0, .slice none 0 0, .bool false, .slice none 0 0] 31
    rw [World.size_alloc, World.size_alloc] at h
    exact h
  have c00 : W0.cell? ⟨w.heap.size, 0, none⟩ = some (.slice a gs.length cap) := R0.cell (by decide)
  go_enter Tryz.func47, Tryz.ntmps47
  go_wp2_with fail
  refine (toStringS_any W0 _ gs (HG.out.below B0) n1).mono ?_
  rw [Z0]
  rintro e w1 ⟨rfl, hT1, hb1⟩
  have Z1 : w.heap.size + 3 ≤ w1.heap.size := by have := hb1.size; omega
  have B1 : Below w.heap.size w w1 := B0.trans (hb1.mono (by omega))
  have R01 := rowIs_below7 R0 (Z0 ▸ hb1)
  have R11 := rowIs_below7 R1 (Z0 ▸ hb1)
  have R21 := rowIs_below7 R2 (Z0 ▸ hb1)
  clear hb1 R0 R1 R2 c00 B0 hW0 Z0
  obtain ⟨w2, hw2⟩ : ∃ w2, w1.setCell ⟨w.heap.size + 1 + 1, 0, none⟩ (.slice (some ⟨w.heap.size + 3, 0, none⟩) gs.length gs.length) = w2 := ⟨_, rfl⟩
  have c1 := R21.cell (i := 0) (by decide)
  have z1 := R21.frozen 0
  have R02 := rowIs_other R01 (p := ⟨w.heap.size + 1 + 1, 0, none⟩) (show w.heap.size ≠ w.heap.size + 1 + 1 by omega) (.slice (some ⟨w.heap.size + 3, 0, none⟩) gs.length gs.length)
  have R12 := rowIs_other R11 (p := ⟨w.heap.size + 1 + 1, 0, none⟩) (show w.heap.size + 1 ≠ w.heap.size + 1 + 1 by omega) (.slice (some ⟨w.heap.size + 3, 0, none⟩) gs.length gs.length)
  have R22 := R21.set 0 (.slice (some ⟨w.heap.size + 3, 0, none⟩) gs.length gs.length)
  have B2 : Below w.heap.size w w2 := by rw [← hw2]; exact B1.setCell (show w.heap.size ≤ w.heap.size + 1 + 1 by omega) _
  have T2 : Hid (TextsAt w2 (.slice (some ⟨w.heap.size + 3, 0, none⟩) gs.length gs.length) gs) := by rw [← hw2]; exact hT1.set (show w.heap.size + 3 ≠ w.heap.size + 1 + 1 by omega) _
  have Z2 : w.heap.size + 3 ≤ w2.heap.size := by rw [← hw2, Go.Deep.nblk_setCell]; exact Z1
  rw [hw2] at R02 R12 R22
  have c2 : w2.cell? ⟨w.heap.size, 1, none⟩ = some (.slice a' es.length cap') := R02.cell (by decide)
  clear R01 R11 R21 hT1 B1 Z1
  go_wp2_with fail
  clear c1 z1 hw2
  refine (toEntryS_any w2 _ es (HE.out.below B2) n2).mono ?_
  obtain ⟨g3, hg3⟩ : ∃ g3, w2.heap.size = g3 := ⟨_, rfl⟩
  rw [hg3]
  rintro e w3 ⟨rfl, hE3, hb3⟩
  have B3 : Below w.heap.size w w3 := B2.trans (hb3.mono (by omega))
  have R03 := rowIs_below7 R02 (hg3 ▸ hb3)
  have R13 := rowIs_below7 R12 (hg3 ▸ hb3)
  have R23 := rowIs_below7 R22 (hg3 ▸ hb3)
  have T3 : Hid (TextsAt w3 (.slice (some ⟨w.heap.size + 3, 0, none⟩) gs.length gs.length) gs) := T2.out.below (hg3 ▸ hb3)
  have Z3 : g3 ≤ w3.heap.size := by have := hb3.size; omega
  have hg3' : w.heap.size + 3 ≤ g3 := by omega
  clear hb3 R02 R12 R22 c2 B2 T2 Z2 hg3
  obtain ⟨w4, hw4⟩ : ∃ w4, w3.setCell ⟨w.heap.size + 1 + 1, 1, none⟩ (.slice (some ⟨g3, 0, none⟩) es.length es.length) = w4 := ⟨_, rfl⟩
  have c3 := R23.cell (i := 1) (by decide)
  have z3 := R23.frozen 1
  have R04 := rowIs_other R03 (p := ⟨w.heap.size + 1 + 1, 1, none⟩) (show w.heap.size ≠ w.heap.size + 1 + 1 by omega) (.slice (some ⟨g3, 0, none⟩) es.length es.length)
  have R14 := rowIs_other R13 (p := ⟨w.heap.size + 1 + 1, 1, none⟩) (show w.heap.size + 1 ≠ w.heap.size + 1 + 1 by omega) (.slice (some ⟨g3, 0, none⟩) es.length es.length)
  have R24 := R23.set 1 (.slice (some ⟨g3, 0, none⟩) es.length es.length)
  have B4 : Below w.heap.size w w4 := by rw [← hw4]; exact B3.setCell (show w.heap.size ≤ w.heap.size + 1 + 1 by omega) _
  have T4 : Hid (TextsAt w4 (.slice (some ⟨w.heap.size + 3, 0, none⟩) gs.length gs.length) gs) := by rw [← hw4]; exact T3.out.set (show w.heap.size + 3 ≠ w.heap.size + 1 + 1 by omega) _
  have E4 : Hid (EntsAt w4 (.slice (some ⟨g3, 0, none⟩) es.length es.length) es) := by rw [← hw4]; exact hE3.set (show g3 ≠ w.heap.size + 1 + 1 by omega) _
  have Z4 : g3 ≤ w4.heap.size := by rw [← hw4, Go.Deep.nblk_setCell]; exact Z3
  rw [hw4] at R04 R14 R24
  obtain ⟨w5, hw5⟩ : ∃ w5, w4.setCell ⟨w.heap.size + 1 + 1, 2, none⟩ (.bool af) = w5 := ⟨_, rfl⟩
  have c4 : w4.cell? ⟨w.heap.size, 2, none⟩ = some (.bool af) := R04.cell (by decide)
  have c5 := R24.cell (i := 2) (by decide)
  have z5 := R24.frozen 2
  have R05 := rowIs_other R04 (p := ⟨w.heap.size + 1 + 1, 2, none⟩) (show w.heap.size ≠ w.heap.size + 1 + 1 by omega) (.bool af)
  have R15 := rowIs_other R14 (p := ⟨w.heap.size + 1 + 1, 2, none⟩) (show w.heap.size + 1 ≠ w.heap.size + 1 + 1 by omega) (.bool af)
  have R25 := R24.set 2 (.bool af)
  have B5 : Below w.heap.size w w5 := by rw [← hw5]; exact B4.setCell (show w.heap.size ≤ w.heap.size + 1 + 1 by omega) _
  have T5 : Hid (TextsAt w5 (.slice (some ⟨w.heap.size + 3, 0, none⟩) gs.length gs.length) gs) := by rw [← hw5]; exact T4.out.set (show w.heap.size + 3 ≠ w.heap.size + 1 + 1 by omega) _
  have E5 : Hid (EntsAt w5 (.slice (some ⟨g3, 0, none⟩) es.length es.length) es) := by rw [← hw5]; exact E4.out.set (show g3 ≠ w.heap.size + 1 + 1 by omega) _
  have Z5 : g3 ≤ w5.heap.size := by rw [← hw5, Go.Deep.nblk_setCell]; exact Z4
  rw [hw5] at R05 R15 R25
  have c6 : w5.cell? ⟨w.heap.size, 3, none⟩ = some (.slice a2 xs.length cap2) := R05.cell (by decide)
  clear R03 R13 R23 R04 R14 R24 B3 T3 hE3 Z3 B4 T4 E4 Z4
  go_wp2_with fail
  clear c3 z3 c4 c5 z5 hw4 hw5
  refine (toAffixS_any w5 _ xs (HA.out.below B5) n3).mono ?_
  obtain ⟨g6, hg6⟩ : ∃ g6, w5.heap.size = g6 := ⟨_, rfl⟩
  rw [hg6]
  rintro e w6 ⟨rfl, hA6, hb6⟩
  have B6 : Below w.heap.size w w6 := B5.trans (hb6.mono (by omega))
  have R16 := rowIs_below7 R15 (hg6 ▸ hb6)
  have R26 := rowIs_below7 R25 (hg6 ▸ hb6)
  have T6 : Hid (TextsAt w6 (.slice (some ⟨w.heap.size + 3, 0, none⟩) gs.length gs.length) gs) := T5.out.below (hg6 ▸ hb6)
  have E6 : Hid (EntsAt w6 (.slice (some ⟨g3, 0, none⟩) es.length es.length) es) := E5.out.below (hg6 ▸ hb6)
  have A6 : Hid (AffsAt w6 (.slice (some ⟨g6, 0, none⟩) xs.length xs.length) xs) := hA6
  have hg6' : g3 ≤ g6 := by omega
  clear hb6 R05 R15 R25 c6 B5 T5 E5 Z5 hg6 hA6
  have c7 : w6.cell? ⟨w.heap.size + 1 + 1, 3, none⟩ = some (.slice none 0 0) := R26.cell (by decide)
  have z7 := R26.frozen 3
  have m0 : w6.cell? ⟨w.heap.size + 1 + 1, 0, none⟩ = some (.slice (some ⟨w.heap.size + 3, 0, none⟩) gs.length gs.length) := R26.cell (by decide)
  have m1 : w6.cell? ⟨w.heap.size + 1 + 1, 1, none⟩ = some (.slice (some ⟨g3, 0, none⟩) es.length es.length) := R26.cell (by decide)
  have m2 : w6.cell? ⟨w.heap.size + 1 + 1, 2, none⟩ = some (.bool af) := R26.cell (by decide)
  have q0 : w6.cell? ⟨w.heap.size + 1, 0, none⟩ = some (.slice none 0 0) := R16.cell (by decide)
  have q1 : w6.cell? ⟨w.heap.size + 1, 1, none⟩ = some (.slice none 0 0) := R16.cell (by decide)
  have q2 : w6.cell? ⟨w.heap.size + 1, 2, none⟩ = some (.bool false) := R16.cell (by decide)
  have q3 : w6.cell? ⟨w.heap.size + 1, 3, none⟩ = some (.slice none 0 0) := R16.cell (by decide)
  have y0 := R16.frozen 0
  have y1 := R16.frozen 1
  have y2 := R16.frozen 2
  have y3 := R16.frozen 3
  clear R16 R26
  go_wp2
  refine bodyPost_ret (v := .agg #[.slice (some ⟨w.heap.size + 3, 0, none⟩) gs.length gs.length, .slice (some ⟨g3, 0, none⟩) es.length es.length, .bool af, .slice (some ⟨g6, 0, none⟩) xs.length xs.length]) (by simp [results, Tryz.results47, go_sem, q0, q1, q2, q3, World.cell?_setCell_same', World.cell?_setCell_other]) rfl ⟨_, _, _, rfl, by omega, by omega, by omega, ?_, ?_, ?_, ?_⟩
  · exact ((((T6.out.set (by simp <;> omega) _).set (by simp <;> omega) _).set (by simp <;> omega) _).set (by simp <;> omega) _).set (by simp <;> omega) _
  · exact ((((E6.out.set (by simp <;> omega) _).set (by simp <;> omega) _).set (by simp <;> omega) _).set (by simp <;> omega) _).set (by simp <;> omega) _
  · exact ((((A6.out.set (by simp <;> omega) _).set (by simp <;> omega) _).set (by simp <;> omega) _).set (by simp <;> omega) _).set (by simp <;> omega) _
  · exact ((((B6.setCell (by simp <;> omega) _).setCell (by simp <;> omega) _).setCell (by simp <;> omega) _).setCell (by simp <;> omega) _).setCell (by simp <;> omega) _
set_option maxRecDepth 100000 in
set_option maxHeartbeats 4000000 in
theorem toRelease_u (w : World) (v : Value) (x : ReleaseM) (h : ReleaseAt w v x) (hs : ReleaseSm x) :
    Calls Tryz.prog 16 #[v] w fun e w' => ∃ v', e = .returned v' ∧ ReleaseOwn w.heap.size w'.heap.size w' v' x ∧ Below w.heap.size w w' := by
  obtain ⟨vg, vc, vl, rfl, h1, h2, h3, hu, he, tb⟩ := h
  obtain ⟨a, c, rfl, -⟩ := h1.form
  obtain ⟨a1, c1, rfl, -⟩ := h2.form
  obtain ⟨a2, c2, rfl, -⟩ := h3.form
  obtain ⟨n, ⟨gs, es, af, xs⟩, su, se⟩ := x
  dsimp only [ReleaseSm] at *
  have HD : Hid (TextsAt w (.slice a gs.length c) gs ∧ EntsAt w (.slice a1 es.length c1) es ∧ AffsAt w (.slice a2 xs.length c2) xs) := ⟨h1, h2, h3⟩
  have HU : Hid (su.size ≤ maxLen ∧ se.size ≤ maxLen ∧ powTab w) := ⟨hu, he, tb⟩
  have HS : Hid (gs.length ≤ 1048576 ∧ es.length ≤ 1048576 ∧ xs.length ≤ 1048576) := hs
  clear h1 h2 h3 hu he hs tb
  obtain ⟨w0, hw0⟩ : ∃ w0, ((w.alloc (.cells #[.int .i64 n, .slice a gs.length c, .slice a1 es.length c1, .bool af, .slice a2 xs.length c2, .string su, .string se] 47)).alloc (.cells #[.int .i64 0, .slice none 0 0, .slice none 0 0, .bool false, .slice none 0 0, .string ⟨#[]⟩, .string ⟨#[]⟩] 33)).alloc (.cells #[.int .i64 n, .slice none 0 0, .slice none 0 0, .bool false, .slice none 0 0, .string ⟨#[]⟩, .string ⟨#[]⟩] 33) = w0 := ⟨_, rfl⟩
  have HB0 : Hid (Below w.heap.size w w0) := by rw [← hw0]; exact (((Below.refl _ _).alloc (Nat.le_refl _) _).alloc (by simp) _).alloc (by simp <;> omega) _
  have Z0 : w0.heap.size = w.heap.size + 3 := by rw [← hw0]; simp
  have p00 : w0.cell? ⟨w.heap.size, 0, none⟩ = some (.int .i64 n) := by rw [← hw0]; simp [go_sem]
  have p01 : w0.cell? ⟨w.heap.size, 1, none⟩ = some (.slice a gs.length c) := by rw [← hw0]; simp [go_sem]
  have p02 : w0.cell? ⟨w.heap.size, 2, none⟩ = some (.slice a1 es.length c1) := by rw [← hw0]; simp [go_sem]
  have p03 : w0.cell? ⟨w.heap.size, 3, none⟩ = some (.bool af) := by rw [← hw0]; simp [go_sem]
  have p04 : w0.cell? ⟨w.heap.size, 4, none⟩ = some (.slice a2 xs.length c2) := by rw [← hw0]; simp [go_sem]
  have p05 : w0.cell? ⟨w.heap.size, 5, none⟩ = some (.string su) := by rw [← hw0]; simp [go_sem]
  have p06 : w0.cell? ⟨w.heap.size, 6, none⟩ = some (.string se) := by rw [← hw0]; simp [go_sem]
  have p10 : w0.cell? ⟨w.heap.size + 1, 0, none⟩ = some (.int .i64 0) := by rw [← hw0]; simp [go_sem]
  have f10 : w0.frozen? ⟨w.heap.size + 1, 0, none⟩ = false := by rw [← hw0]; simp [go_sem]
  have p11 : w0.cell? ⟨w.heap.size + 1, 1, none⟩ = some (.slice none 0 0) := by rw [← hw0]; simp [go_sem]
  have f11 : w0.frozen? ⟨w.heap.size + 1, 1, none⟩ = false := by rw [← hw0]; simp [go_sem]
  have p12 : w0.cell? ⟨w.heap.size + 1, 2, none⟩ = some (.slice none 0 0) := by rw [← hw0]; simp [go_sem]
  have f12 : w0.frozen? ⟨w.heap.size + 1, 2, none⟩ = false := by rw [← hw0]; simp [go_sem]
  have p13 : w0.cell? ⟨w.heap.size + 1, 3, none⟩ = some (.bool false) := by rw [← hw0]; simp [go_sem]
  have f13 : w0.frozen? ⟨w.heap.size + 1, 3, none⟩ = false := by rw [← hw0]; simp [go_sem]
  have p14 : w0.cell? ⟨w.heap.size + 1, 4, none⟩ = some (.slice none 0 0) := by rw [← hw0]; simp [go_sem]
  have f14 : w0.frozen? ⟨w.heap.size + 1, 4, none⟩ = false := by rw [← hw0]; simp [go_sem]
  have p15 : w0.cell? ⟨w.heap.size + 1, 5, none⟩ = some (.string ⟨#[]⟩) := by rw [← hw0]; simp [go_sem]
  have f15 : w0.frozen? ⟨w.heap.size + 1, 5, none⟩ = false := by rw [← hw0]; simp [go_sem]
  have p16 : w0.cell? ⟨w.heap.size + 1, 6, none⟩ = some (.string ⟨#[]⟩) := by rw [← hw0]; simp [go_sem]
  have f16 : w0.frozen? ⟨w.heap.size + 1, 6, none⟩ = false := by rw [← hw0]; simp [go_sem]
  have p20 : w0.cell? ⟨w.heap.size + 1 + 1, 0, none⟩ = some (.int .i64 n) := by rw [← hw0]; simp [go_sem]
  have f20 : w0.frozen? ⟨w.heap.size + 1 + 1, 0, none⟩ = false := by rw [← hw0]; simp [go_sem]
  have p21 : w0.cell? ⟨w.heap.size + 1 + 1, 1, none⟩ = some (.slice none 0 0) := by rw [← hw0]; simp [go_sem]
  have f21 : w0.frozen? ⟨w.heap.size + 1 + 1, 1, none⟩ = false := by rw [← hw0]; simp [go_sem]
  have p22 : w0.cell? ⟨w.heap.size + 1 + 1, 2, none⟩ = some (.slice none 0 0) := by rw [← hw0]; simp [go_sem]
  have f22 : w0.frozen? ⟨w.heap.size + 1 + 1, 2, none⟩ = false := by rw [← hw0]; simp [go_sem]
  have p23 : w0.cell? ⟨w.heap.size + 1 + 1, 3, none⟩ = some (.bool false) := by rw [← hw0]; simp [go_sem]
  have f23 : w0.frozen? ⟨w.heap.size + 1 + 1, 3, none⟩ = false := by rw [← hw0]; simp [go_sem]
  have p24 : w0.cell? ⟨w.heap.size + 1 + 1, 4, none⟩ = some (.slice none 0 0) := by rw [← hw0]; simp [go_sem]
  have f24 : w0.frozen? ⟨w.heap.size + 1 + 1, 4, none⟩ = false := by rw [← hw0]; simp [go_sem]
  have p25 : w0.cell? ⟨w.heap.size + 1 + 1, 5, none⟩ = some (.string ⟨#[]⟩) := by rw [← hw0]; simp [go_sem]
  have f25 : w0.frozen? ⟨w.heap.size + 1 + 1, 5, none⟩ = false := by rw [← hw0]; simp [go_sem]
  have p26 : w0.cell? ⟨w.heap.size + 1 + 1, 6, none⟩ = some (.string ⟨#[]⟩) := by rw [← hw0]; simp [go_sem]
  have f26 : w0.frozen? ⟨w.heap.size + 1 + 1, 6, none⟩ = false := by rw [← hw0]; simp [go_sem]
  go_enter Tryz.func16, Tryz.ntmps16
  go_wp2_with fail
  refine (toDelta_blk w0 _ _ _ af gs es xs (HD.out.1.below HB0.out) (HD.out.2.1.below HB0.out) (HD.out.2.2.below HB0.out) HS.out.1 HS.out.2.1 HS.out.2.2).mono ?_
  rintro e w1 ⟨g1, g2, g3, rfl, y1, y2, y3, t1, t2, t3, hb1⟩
  rw [Z0] at y1 y2 y3
  have HT : Hid (TextsAt w1 (.slice (some ⟨g1, 0, none⟩) gs.length gs.length) gs ∧ EntsAt w1 (.slice (some ⟨g2, 0, none⟩) es.length es.length) es ∧ AffsAt w1 (.slice (some ⟨g3, 0, none⟩) xs.length xs.length) xs) := ⟨t1, t2, t3⟩
  have HB1 : Hid (Below w.heap.size w w1) := HB0.out.trans (hb1.mono HB0.out.size)
  have q05 := (hb1.cell (p := ⟨w.heap.size, 5, none⟩) (by rw [Z0]; dsimp only; omega)).trans p05
  have q06 := (hb1.cell (p := ⟨w.heap.size, 6, none⟩) (by rw [Z0]; dsimp only; omega)).trans p06
  have q10 := (hb1.cell (p := ⟨w.heap.size + 1, 0, none⟩) (by rw [Z0]; dsimp only; omega)).trans p10
  have z10 := (hb1.frozen (p := ⟨w.heap.size + 1, 0, none⟩) (by rw [Z0]; dsimp only; omega)).trans f10
  have q11 := (hb1.cell (p := ⟨w.heap.size + 1, 1, none⟩) (by rw [Z0]; dsimp only; omega)).trans p11
  have z11 := (hb1.frozen (p := ⟨w.heap.size + 1, 1, none⟩) (by rw [Z0]; dsimp only; omega)).trans f11
  have q12 := (hb1.cell (p := ⟨w.heap.size + 1, 2, none⟩) (by rw [Z0]; dsimp only; omega)).trans p12
  have z12 := (hb1.frozen (p := ⟨w.heap.size + 1, 2, none⟩) (by rw [Z0]; dsimp only; omega)).trans f12
  have q13 := (hb1.cell (p := ⟨w.heap.size + 1, 3, none⟩) (by rw [Z0]; dsimp only; omega)).trans p13
  have z13 := (hb1.frozen (p := ⟨w.heap.size + 1, 3, none⟩) (by rw [Z0]; dsimp only; omega)).trans f13
  have q14 := (hb1.cell (p := ⟨w.heap.size + 1, 4, none⟩) (by rw [Z0]; dsimp only; omega)).trans p14
  have z14 := (hb1.frozen (p := ⟨w.heap.size + 1, 4, none⟩) (by rw [Z0]; dsimp only; omega)).trans f14
  have q15 := (hb1.cell (p := ⟨w.heap.size + 1, 5, none⟩) (by rw [Z0]; dsimp only; omega)).trans p15
  have z15 := (hb1.frozen (p := ⟨w.heap.size + 1, 5, none⟩) (by rw [Z0]; dsimp only; omega)).trans f15
  have q16 := (hb1.cell (p := ⟨w.heap.size + 1, 6, none⟩) (by rw [Z0]; dsimp only; omega)).trans p16
  have z16 := (hb1.frozen (p := ⟨w.heap.size + 1, 6, none⟩) (by rw [Z0]; dsimp only; omega)).trans f16
  have q20 := (hb1.cell (p := ⟨w.heap.size + 1 + 1, 0, none⟩) (by rw [Z0]; dsimp only; omega)).trans p20
  have z20 := (hb1.frozen (p := ⟨w.heap.size + 1 + 1, 0, none⟩) (by rw [Z0]; dsimp only; omega)).trans f20
  have q21 := (hb1.cell (p := ⟨w.heap.size + 1 + 1, 1, none⟩) (by rw [Z0]; dsimp only; omega)).trans p21
  have z21 := (hb1.frozen (p := ⟨w.heap.size + 1 + 1, 1, none⟩) (by rw [Z0]; dsimp only; omega)).trans f21
  have q22 := (hb1.cell (p := ⟨w.heap.size + 1 + 1, 2, none⟩) (by rw [Z0]; dsimp only; omega)).trans p22
  have z22 := (hb1.frozen (p := ⟨w.heap.size + 1 + 1, 2, none⟩) (by rw [Z0]; dsimp only; omega)).trans f22
  have q23 := (hb1.cell (p := ⟨w.heap.size + 1 + 1, 3, none⟩) (by rw [Z0]; dsimp only; omega)).trans p23
  have z23 := (hb1.frozen (p := ⟨w.heap.size + 1 + 1, 3, none⟩) (by rw [Z0]; dsimp only; omega)).trans f23
  have q24 := (hb1.cell (p := ⟨w.heap.size + 1 + 1, 4, none⟩) (by rw [Z0]; dsimp only; omega)).trans p24
  have z24 := (hb1.frozen (p := ⟨w.heap.size + 1 + 1, 4, none⟩) (by rw [Z0]; dsimp only; omega)).trans f24
  have q25 := (hb1.cell (p := ⟨w.heap.size + 1 + 1, 5, none⟩) (by rw [Z0]; dsimp only; omega)).trans p25
  have z25 := (hb1.frozen (p := ⟨w.heap.size + 1 + 1, 5, none⟩) (by rw [Z0]; dsimp only; omega)).trans f25
  have q26 := (hb1.cell (p := ⟨w.heap.size + 1 + 1, 6, none⟩) (by rw [Z0]; dsimp only; omega)).trans p26
  have z26 := (hb1.frozen (p := ⟨w.heap.size + 1 + 1, 6, none⟩) (by rw [Z0]; dsimp only; omega)).trans f26
  clear hb1 t1 t2 t3 HB0 Z0 hw0 p00 p01 p02 p03 p04 p05 p06 p10 p11 p12 p13 p14 p15 p16 p20 p21 p22 p23 p24 p25 p26 f10 f11 f12 f13 f14 f15 f16 f20 f21 f22 f23 f24 f25 f26
  go_wp2
  refine bodyPost_ret (v := .agg #[.int .i64 n, .slice (some ⟨g1, 0, none⟩) gs.length gs.length, .slice (some ⟨g2, 0, none⟩) es.length es.length, .bool af, .slice (some ⟨g3, 0, none⟩) xs.length xs.length, .string su, .string se]) (by simp [results, Tryz.results16, go_sem, q10, q11, q12, q13, q14, q15, q16]) rfl ⟨_, rfl, ⟨_, _, _, rfl, ?_, ?_, ?_, HU.out.1, HU.out.2.1, ?_⟩, ?_⟩
  · exact (((((((((((((HT.out.1.set (by simp <;> omega) _).set (by simp <;> omega) _).set (by simp <;> omega) _).set (by simp <;> omega) _).set (by simp <;> omega) _).set (by simp <;> omega) _).set (by simp <;> omega) _).set (by simp <;> omega) _).set (by simp <;> omega) _).set (by simp <;> omega) _).set (by simp <;> omega) _).set (by simp <;> omega) _).set (by simp <;> omega) _)
  · exact (((((((((((((HT.out.2.1.set (by simp <;> omega) _).set (by simp <;> omega) _).set (by simp <;> omega) _).set (by simp <;> omega) _).set (by simp <;> omega) _).set (by simp <;> omega) _).set (by simp <;> omega) _).set (by simp <;> omega) _).set (by simp <;> omega) _).set (by simp <;> omega) _).set (by simp <;> omega) _).set (by simp <;> omega) _).set (by simp <;> omega) _)
  · exact (((((((((((((HT.out.2.2.set (by simp <;> omega) _).set (by simp <;> omega) _).set (by simp <;> omega) _).set (by simp <;> omega) _).set (by simp <;> omega) _).set (by simp <;> omega) _).set (by simp <;> omega) _).set (by simp <;> omega) _).set (by simp <;> omega) _).set (by simp <;> omega) _).set (by simp <;> omega) _).set (by simp <;> omega) _).set (by simp <;> omega) _)
  · exact HU.out.2.2.below (((((((((((((HB1.out.setCell (by simp <;> omega) _).setCell (by simp <;> omega) _).setCell (by simp <;> omega) _).setCell (by simp <;> omega) _).setCell (by simp <;> omega) _).setCell (by simp <;> omega) _).setCell (by simp <;> omega) _).setCell (by simp <;> omega) _).setCell (by simp <;> omega) _).setCell (by simp <;> omega) _).setCell (by simp <;> omega) _).setCell (by simp <;> omega) _).setCell (by simp <;> omega) _)
  · exact (((((((((((((HB1.out.setCell (by simp <;> omega) _).setCell (by simp <;> omega) _).setCell (by simp <;> omega) _).setCell (by simp <;> omega) _).setCell (by simp <;> omega) _).setCell (by simp <;> omega) _).setCell (by simp <;> omega) _).setCell (by simp <;> omega) _).setCell (by simp <;> omega) _).setCell (by simp <;> omega) _).setCell (by simp <;> omega) _).setCell (by simp <;> omega) _).setCell (by simp <;> omega) _)
end Go.Proofs.YtcdgikhkjpneiaaGreatDoor
/-
  A release that a law is given, opened.
-/
namespace Go.Proofs.YtcdgikhkjpneiaaGreatDoor
open Go.ChangeShapes Go.WideShapes Go.ChangeAt Go.RowKit
set_option linter.unusedVariables false
set_option maxRecDepth 100000 in
theorem open_releaseV {H : Type} {enc : TypeId × Value → H} {w : World} {r : Reach} {b0 base : Nat} {spare : Nat → Bool} {held : Bool} {v : Value} {d : DataW H} {p : List MemPlace}
    (hv : Value.okWide Tryz.prog w r b0 47 v) (h : DataW.Trod enc Tryz.prog w base spare held 47 v d p) :
    ∃ n vg vc af vl gs es xs su se, v = .agg #[.int .i64 n, vg, vc, .bool af, vl, .string su, .string se] ∧ TextsAt w vg gs ∧ EntsAt w vc es ∧ AffsAt w vl xs ∧ su.size ≤ maxLen ∧ se.size ≤ maxLen := by
  obtain ⟨cs, rfl, hsz⟩ := okWide_struct Tryz.underlying47 hv
  obtain ⟨vn, vg, vc, va, vl, vu, ve, rfl⟩ : ∃ vn vg vc va vl vu ve, cs = #[vn, vg, vc, va, vl, vu, ve] := by
    have h2 : cs.size = 7 := hsz.trans (by kernel_rfl)
    obtain ⟨l⟩ := cs
    match l, h2 with
    | [x0, x1, x2, x3, x4, x5, x6], _ => exact ⟨x0, x1, x2, x3, x4, x5, x6, rfl⟩
  obtain ⟨fuel, hf⟩ := h
  obtain ⟨ys, n, rfl, hx, hl, hn, hall⟩ := DataW.trod_struct Tryz.underlying47 hf
  have k0 := hall 0 _ rfl
  have k1 := hall 1 _ rfl
  have k2 := hall 2 _ rfl
  have k3 := hall 3 _ rfl
  have o0 : Tryz.prog.cellsOf 3 = 1 := by kernel_rfl
  have o1 : Tryz.prog.cellsOf 45 = 4 := by kernel_rfl
  have o2 : Tryz.prog.cellsOf 9 = 1 := by kernel_rfl
  match ys, hn with
  | [y0, y1, y2, y3], _ =>
    simp [Value.cells, o0, o1, o2] at k0 k1 k2 k3
    obtain ⟨m, e0, -⟩ := DataW.trod_int Tryz.underlying3 k0
    obtain ⟨su, e2, -, lu⟩ := DataW.trod_string Tryz.underlying9 k2
    obtain ⟨se, e3, -, le⟩ := DataW.trod_string Tryz.underlying9 k3
    simp only [List.cons.injEq, and_true] at e0 e2 e3
    subst e0; subst e2; subst e3
    obtain ⟨zs, n2, rfl, hx2, hl2, hn2, hall2⟩ := DataW.trod_struct Tryz.underlying45 k1
    have q0 := hall2 0 _ rfl
    have q1 := hall2 1 _ rfl
    have q2 := hall2 2 _ rfl
    have q3 := hall2 3 _ rfl
    have p1 : Tryz.prog.cellsOf 27 = 1 := by kernel_rfl
    have p2 : Tryz.prog.cellsOf 23 = 1 := by kernel_rfl
    have p3 : Tryz.prog.cellsOf 4 = 1 := by kernel_rfl
    have p4 : Tryz.prog.cellsOf 22 = 1 := by kernel_rfl
    match zs, hn2 with
    | [z0, z1, z2, z3], _ =>
      simp [p1, p2, p3, p4] at q0 q1 q2 q3
      obtain ⟨gs, hgs⟩ := open_texts q0
      obtain ⟨es, hes⟩ := open_ents q1
      obtain ⟨xs, hxs⟩ := open_affs q3
      obtain ⟨af, haf, -⟩ := DataW.trod_bool Tryz.underlying4 q2
      simp only [List.cons.injEq, and_true] at haf
      subst haf
      exact ⟨m, vg, vc, af, vl, gs, es, xs, su, se, rfl, hgs, hes, hxs, lu, le⟩
end Go.Proofs.YtcdgikhkjpneiaaGreatDoor
/-
  A release that is answered: its rows are its own; compared, marked and held.
-/
namespace Go.Proofs.YtcdgikhkjpneiaaGreatDoor
open Go.RowKit
set_option linter.unusedVariables false
def relV (x : ReleaseM) (vg vc vl : Value) : Value := .agg #[.int .i64 x.1, vg, vc, .bool x.2.1.2.2.1, vl, .string x.2.2.1, .string x.2.2.2]
def RelAt (w : World) (v : Value) (x : ReleaseM) : Prop := ∃ vg vc vl, v = .agg #[.int .i64 x.1, vg, vc, .bool x.2.1.2.2.1, vl, .string x.2.2.1, .string x.2.2.2] ∧ DeltaAt w (.agg #[vg, vc, .bool x.2.1.2.2.1, vl]) x.2.1 ∧ x.2.2.1.size ≤ maxLen ∧ x.2.2.2.size ≤ maxLen
def RelOwn (lo hi : Nat) (w : World) (v : Value) (x : ReleaseM) : Prop := ∃ vg vc vl, v = .agg #[.int .i64 x.1, vg, vc, .bool x.2.1.2.2.1, vl, .string x.2.2.1, .string x.2.2.2] ∧ DeltaOwn lo hi w (.agg #[vg, vc, .bool x.2.1.2.2.1, vl]) x.2.1 ∧ x.2.2.1.size ≤ maxLen ∧ x.2.2.2.size ≤ maxLen
def relCnt (x : ReleaseM) : Nat := deltaCnt x.2.1
def relMk (k : Nat) (x : ReleaseM) : ReleaseM := (x.1, deltaMk k x.2.1, x.2.2.1, x.2.2.2)
theorem RelAt.form2 {w : World} {v : Value} {x : ReleaseM} (h : RelAt w v x) : ∃ n a l c a' l' c' b a'' l'' c'' s s', v = .agg #[.int .i64 n, .slice a l c, .slice a' l' c', .bool b, .slice a'' l'' c'', .string s, .string s'] := by
  obtain ⟨vg, vc, vl, rfl, h1, -, -⟩ := h
  obtain ⟨_, _, _, hv, k1, k2, k3⟩ := h1
  cases hv
  obtain ⟨a, c, rfl, _⟩ := k1.form
  obtain ⟨a', c', rfl, _⟩ := k2.form
  obtain ⟨a'', c'', rfl, _⟩ := k3.form
  exact ⟨_, _, _, _, _, _, _, _, _, _, _, _, _, rfl⟩
theorem RelAt.below {w w' : World} {v : Value} {x : ReleaseM} (h : RelAt w v x) (hb : Below w.heap.size w w') : RelAt w' v x := by
  obtain ⟨vg, vc, vl, hv, h1, h2⟩ := h
  exact ⟨vg, vc, vl, hv, h1.below hb, h2⟩
theorem RelOwn.at {lo hi : Nat} {w : World} {v : Value} {x : ReleaseM} (h : RelOwn lo hi w v x) : RelAt w v x := by
  obtain ⟨vg, vc, vl, hv, h1, h2⟩ := h
  exact ⟨vg, vc, vl, hv, h1.at, h2⟩
theorem RelOwn.below {lo hi : Nat} {w w' : World} {v : Value} {x : ReleaseM} (h : RelOwn lo hi w v x) (hb : Below w.heap.size w w') : RelOwn lo hi w' v x := by
  obtain ⟨vg, vc, vl, hv, h1, h2⟩ := h
  exact ⟨vg, vc, vl, hv, h1.below hb, h2⟩
theorem RelOwn.wr {lo hi l h' : Nat} {w w' : World} {v : Value} {x : ReleaseM} (h : RelOwn lo hi w v x) (hw : Wr l h' w w') (hl : h' ≤ lo) : RelOwn lo hi w' v x := by
  obtain ⟨vg, vc, vl, hv, h1, h2⟩ := h
  exact ⟨vg, vc, vl, hv, h1.wr hw hl, h2⟩
theorem deltaOwn_block486 {lo hi : Nat} {w w' : World} {v : Value} {x : DeltaM} (h : DeltaOwn lo hi w v x) (hb : ∀ g, lo ≤ g → g < hi → g < w.heap.size → w'.heap[g]? = w.heap[g]?) : DeltaOwn lo hi w' v x := by
  obtain ⟨vg, vc, vl, hv, h1, h2, h3⟩ := h
  exact ⟨vg, vc, vl, hv, ⟨h1.1.block fun g k1 k2 _ _ k3 => hb g k1 k2 k3, h1.2⟩, ⟨h2.1.block fun g k1 k2 _ _ k3 => hb g k1 k2 k3, h2.2⟩, ⟨h3.1.block fun g k1 k2 _ _ k3 => hb g k1 k2 k3, h3.2⟩⟩
theorem DeltaOwn.weak486 {lo hi lo' hi' : Nat} {w : World} {v : Value} {x : DeltaM} (h : DeltaOwn lo hi w v x) (hl : lo' ≤ lo) (hh : hi ≤ hi') : DeltaOwn lo' hi' w v x := by
  obtain ⟨vg, vc, vl, hv, h1, h2, h3⟩ := h
  exact ⟨vg, vc, vl, hv, h1.weak hl hh, h2.weak hl hh, h3.weak hl hh⟩
theorem deltaOwn_set486 {lo hi q o : Nat} {w : World} {v : Value} {x : DeltaM} (h : DeltaOwn lo hi w v x) (hq : q < lo ∨ hi ≤ q) (u : Value) : DeltaOwn lo hi (w.setCell ⟨q, o, none⟩ u) v x := deltaOwn_block486 h fun g h1 h2 _ => Below.heap_setCell _ _ _ g (by show g ≠ q; omega)
theorem deltaOwn_setRow486 {lo hi q : Nat} {w : World} {v : Value} {x : DeltaM} (h : DeltaOwn lo hi w v x) (hq : q < lo ∨ hi ≤ q) (cs : Array Value) : DeltaOwn lo hi (w.setRow q cs) v x := deltaOwn_block486 h fun g h1 h2 _ => setRow_other _ _ _ _ (by omega)
theorem relOwn_setRow486 {lo hi q : Nat} {w : World} {v : Value} {x : ReleaseM} (h : RelOwn lo hi w v x) (hq : q < lo ∨ hi ≤ q) (cs : Array Value) : RelOwn lo hi (w.setRow q cs) v x := by
  obtain ⟨vg, vc, vl, hv, h1, h2⟩ := h
  exact ⟨vg, vc, vl, hv, deltaOwn_setRow486 h1 hq cs, h2⟩
theorem RelOwn.weak {lo hi lo' hi' : Nat} {w : World} {v : Value} {x : ReleaseM} (h : RelOwn lo hi w v x) (hl : lo' ≤ lo) (hh : hi ≤ hi') : RelOwn lo' hi' w v x := by
  obtain ⟨vg, vc, vl, hv, h1, h2⟩ := h
  exact ⟨vg, vc, vl, hv, h1.weak486 hl hh, h2⟩
theorem RelAt.release {w : World} {v : Value} {x : ReleaseM} (h : RelAt w v x) (ht : powTab w) : ReleaseAt w v x := by
  obtain ⟨vg, vc, vl, rfl, h1, hu, he⟩ := h
  obtain ⟨_, _, _, hv, k1, k2, k3⟩ := h1
  cases hv
  exact ⟨vg, vc, vl, rfl, k1, k2, k3, hu, he, ht⟩
theorem RelAt.of_release {w : World} {v : Value} {x : ReleaseM} (h : ReleaseAt w v x) : RelAt w v x := by
  obtain ⟨vg, vc, vl, rfl, h1, h2, h3, hu, he, -⟩ := h
  exact ⟨vg, vc, vl, rfl, ⟨_, _, _, rfl, h1, h2, h3⟩, hu, he⟩
theorem relNil486 (lo hi : Nat) (w : World) : RelOwn lo hi w (.agg #[.int .i64 0, .slice none 0 0, .slice none 0 0, .bool false, .slice none 0 0, .string ⟨#[]⟩, .string ⟨#[]⟩]) (0, ([], [], false, []), ⟨#[]⟩, ⟨#[]⟩) :=
  ⟨_, _, _, rfl, ⟨_, _, _, rfl, ⟨⟨none, 0, rfl, Nat.le_refl _, Nat.zero_le _, fun hn => absurd rfl hn⟩, fun i x hx => by simp at hx⟩, ⟨⟨none, 0, rfl, Nat.le_refl _, Nat.zero_le _, fun hn => absurd rfl hn⟩, fun i x hx => by simp at hx⟩, ⟨⟨none, 0, rfl, Nat.le_refl _, Nat.zero_le _, fun hn => absurd rfl hn⟩, fun i x hx => by simp at hx⟩⟩, Nat.zero_le _, Nat.zero_le _⟩
set_option maxHeartbeats 1000000 in
theorem eqRel_u (w : World) (v u : Value) (x : ReleaseM) (h : RelAt w v x) (h' : RelAt w u x) :
    Calls Tryz.prog 9 #[v, u] w fun e w' => e = .returned (.bool true) ∧ Below w.heap.size w w' := by
  obtain ⟨vg, vc, vl, rfl, ⟨_, _, _, hv, h1, h2, h3⟩, hu, he⟩ := h
  cases hv
  obtain ⟨a, c, rfl, -⟩ := h1.form
  obtain ⟨a1, c1, rfl, -⟩ := h2.form
  obtain ⟨a2, c2, rfl, -⟩ := h3.form
  obtain ⟨n, ⟨gs, es, af, xs⟩, su, se⟩ := x
  dsimp only at *
  obtain ⟨vg, vc, vl, rfl, ⟨_, _, _, hv, g1, g2, g3⟩, -, -⟩ := h'
  cases hv
  obtain ⟨b, d, rfl, -⟩ := g1.form
  obtain ⟨b1, d1, rfl, -⟩ := g2.form
  obtain ⟨b2, d2, rfl, -⟩ := g3.form
  dsimp only at *
  have HB0 : Hid (Below w.heap.size w ((w.alloc (.cells #[.int .i64 n, .slice a gs.length c, .slice a1 es.length c1, .bool af, .slice a2 xs.length c2, .string su, .string se] 33)).alloc (.cells #[.int .i64 n, .slice b gs.length d, .slice b1 es.length d1, .bool af, .slice b2 xs.length d2, .string su, .string se] 33))) := ((Below.refl _ _).alloc (Nat.le_refl _) _).alloc (by simp <;> omega) _
  have HD : Hid (TextsAt w (.slice a gs.length c) gs ∧ EntsAt w (.slice a1 es.length c1) es ∧ AffsAt w (.slice a2 xs.length c2) xs) := ⟨h1, h2, h3⟩
  have HG : Hid (TextsAt w (.slice b gs.length d) gs ∧ EntsAt w (.slice b1 es.length d1) es ∧ AffsAt w (.slice b2 xs.length d2) xs) := ⟨g1, g2, g3⟩
  clear h1 h2 h3 g1 g2 g3
  go_enter Tryz.func9, Tryz.ntmps9
  go_wp2_with fail
  refine (eqDelta_same _ _ _ _ _ _ _ af gs es xs (HD.out.1.below HB0.out) (HD.out.2.1.below HB0.out) (HD.out.2.2.below HB0.out) (HG.out.1.below HB0.out) (HG.out.2.1.below HB0.out) (HG.out.2.2.below HB0.out)).mono ?_
  rintro e w1 ⟨rfl, hb1⟩
  have HB1 : Hid (Below w.heap.size w w1) := HB0.out.trans (hb1.mono HB0.out.size)
  have k05 : w1.cell? ⟨w.heap.size, 5, none⟩ = some (.string su) := (hb1.cell (p := ⟨w.heap.size, 5, none⟩) (by simp <;> omega)).trans (by simp [go_sem])
  have k06 : w1.cell? ⟨w.heap.size, 6, none⟩ = some (.string se) := (hb1.cell (p := ⟨w.heap.size, 6, none⟩) (by simp <;> omega)).trans (by simp [go_sem])
  have k15 : w1.cell? ⟨w.heap.size + 1, 5, none⟩ = some (.string su) := (hb1.cell (p := ⟨w.heap.size + 1, 5, none⟩) (by simp <;> omega)).trans (by simp [go_sem])
  have k16 : w1.cell? ⟨w.heap.size + 1, 6, none⟩ = some (.string se) := (hb1.cell (p := ⟨w.heap.size + 1, 6, none⟩) (by simp <;> omega)).trans (by simp [go_sem])
  clear hb1
  go_wp2
  go_ret
  exact ⟨rfl, HB1.out⟩
set_option maxHeartbeats 1000000 in
theorem markRel_u (lo hi k : Nat) (w : World) (v : Value) (x : ReleaseM) (h : RelOwn lo hi w v x) (hs : ReleaseSm x) (hk : k ≤ 10000000000) (hlo : hi ≤ w.heap.size) (hlh : lo ≤ hi) :
    Calls Tryz.prog 12 #[v, .int .i64 k] w fun e w' => e = .returned (.int .i64 ((k + relCnt x : Nat) : Int)) ∧ RelOwn lo hi w' v (relMk k x) ∧ Wr lo hi w w' := by
  obtain ⟨a0, a1, a2, a3, a4, a5, a6, a7, a8, a9, a10, a11, a12, hv0⟩ := h.at.form2
  obtain ⟨vg, vc, vl, hv, h1, hu, he⟩ := h
  subst hv
  cases hv0
  have HD : Hid (DeltaOwn lo hi w (.agg #[.slice a1 a2 a3, .slice a4 a5 a6, .bool x.2.1.2.2.1, .slice a8 a9 a10]) x.2.1) := h1
  have HU : Hid (x.2.2.1.size ≤ maxLen ∧ x.2.2.2.size ≤ maxLen) := ⟨hu, he⟩
  obtain ⟨W, hW⟩ : ∃ W, w.alloc (.cells #[.int .i64 x.1, .slice a1 a2 a3, .slice a4 a5 a6, .bool x.2.1.2.2.1, .slice a8 a9 a10, .string x.2.2.1, .string x.2.2.2] 33) = W := ⟨_, rfl⟩
  have HB0 : Hid (Below w.heap.size w W) := by show Below _ _ _; rw [← hW]; exact (Below.refl _ _).alloc (Nat.le_refl _) _
  have hz : w.heap.size < W.heap.size := by rw [← hW]; simp
  have N0 : W.heap[w.heap.size]? = some (.cells #[.int .i64 x.1, .slice a1 a2 a3, .slice a4 a5 a6, .bool x.2.1.2.2.1, .slice a8 a9 a10, .string x.2.2.1, .string x.2.2.2] 33 (0, 0)) := by rw [← hW]; exact heap_alloc_last w _
  have c1 : W.cell? ⟨w.heap.size, 1, none⟩ = some (.slice a1 a2 a3) := by rw [cell_of_row _ _ 1 _ _ _ N0]; rfl
  have c2 : W.cell? ⟨w.heap.size, 2, none⟩ = some (.slice a4 a5 a6) := by rw [cell_of_row _ _ 2 _ _ _ N0]; rfl
  have c3 : W.cell? ⟨w.heap.size, 3, none⟩ = some (.bool x.2.1.2.2.1) := by rw [cell_of_row _ _ 3 _ _ _ N0]; rfl
  have c4 : W.cell? ⟨w.heap.size, 4, none⟩ = some (.slice a8 a9 a10) := by rw [cell_of_row _ _ 4 _ _ _ N0]; rfl
  have HW : Hid (w.alloc (.cells #[.int .i64 x.1, .slice a1 a2 a3, .slice a4 a5 a6, .bool x.2.1.2.2.1, .slice a8 a9 a10, .string x.2.2.1, .string x.2.2.2] 33) = W) := hW
  clear h1 hW N0
  go_enter Tryz.func12, Tryz.ntmps12
  go_wp2_with fail
  try rw [HW.out]
  refine (markDelta_u lo hi k W _ x.2.1 (HD.out.below HB0.out) hs hk (by omega) hlh).mono ?_
  rintro e w1 ⟨rfl, h1, hw1⟩
  have HW1 : Hid (Wr lo hi w w1) := (Wr.of_below HB0.out (by omega)).trans hw1
  have H1 : Hid (DeltaOwn lo hi w1 (.agg #[.slice a1 a2 a3, .slice a4 a5 a6, .bool x.2.1.2.2.1, .slice a8 a9 a10]) (deltaMk k x.2.1)) := h1
  clear h1 hw1 c1 c2 c3 c4
  go_wp2
  go_ret
  exact ⟨rfl, ⟨_, _, _, rfl, H1.out, HU.out.1, HU.out.2⟩, HW1.out⟩
set_option maxHeartbeats 1000000 in
theorem heldRel_u (w : World) (v : Value) (k : Nat) (x : ReleaseM) (h : RelAt w v (relMk k x)) (hs : ReleaseSm x) (hk : k ≤ 100000000) :
    Calls Tryz.prog 13 #[v, .int .i64 k] w fun e w' => e = .returned (.int .i64 ((k + relCnt x : Nat) : Int)) ∧ Below w.heap.size w w' := by
  obtain ⟨a0, a1, a2, a3, a4, a5, a6, a7, a8, a9, a10, a11, a12, hv0⟩ := h.form2
  obtain ⟨vg, vc, vl, hv, h1, hu, he⟩ := h
  subst hv
  cases hv0
  have HD : Hid (DeltaAt w (.agg #[.slice a1 a2 a3, .slice a4 a5 a6, .bool (relMk k x).2.1.2.2.1, .slice a8 a9 a10]) (deltaMk k x.2.1)) := h1
  have HN : Hid (deltaCnt x.2.1 ≤ 100000000) := by
    show _ ≤ _
    obtain ⟨s1, s2, s3⟩ := hs
    unfold deltaCnt
    omega
  clear h1
  obtain ⟨K, hK⟩ : ∃ K, k + deltaCnt x.2.1 = K := ⟨_, rfl⟩
  have hK2 : ¬ ((K : Int) < 0) := by omega
  have HK : Hid (k + deltaCnt x.2.1 = K) := hK
  have HB0 : Hid (Below w.heap.size w (w.alloc (.cells #[.int .i64 (relMk k x).1, .slice a1 a2 a3, .slice a4 a5 a6, .bool (relMk k x).2.1.2.2.1, .slice a8 a9 a10, .string (relMk k x).2.2.1, .string (relMk k x).2.2.2] 33))) := (Below.refl _ _).alloc (Nat.le_refl _) _
  clear hK
  go_enter Tryz.func13, Tryz.ntmps13
  go_wp2_with fail
  refine (cK (heldDelta_u _ _ k x.2.1 (HD.out.below HB0.out) hs (by omega)) HK.out).mono ?_
  rintro e w1 ⟨rfl, hb1⟩
  have HB1 : Hid (Below w.heap.size w w1) := HB0.out.trans (hb1.mono HB0.out.size)
  clear hb1
  go_wp2
  go_ret
  exact ⟨by rw [show k + relCnt x = K from HK.out]; rfl, HB1.out⟩
end Go.Proofs.YtcdgikhkjpneiaaGreatDoor
