/-
  Releases in one form.
-/
import Derived.Test.YtkepmjebnkcbgaaGreatDoorGW404
import Derived.Test.YtkepmjebnkcbgaaGreatDoorW169
import Derived.Lib.LaidTab
import Derived.Shelf.Strconv.Itoa3
namespace Go.Proofs.YtkepmjebnkcbgaaGreatDoor
open Go.RowKit
set_option linter.unusedVariables false
/-- Releases: a number, a change, a sum, a seal. -/
abbrev ReleaseM := Int × DeltaM × ByteArray × ByteArray
def ReleaseAt (w : World) (v : Value) (x : ReleaseM) : Prop := ∃ vg vc vl, v = .agg #[.int .i64 x.1, vg, vc, .bool x.2.1.2.2.1, vl, .string x.2.2.1, .string x.2.2.2] ∧ TextsAt w vg x.2.1.1 ∧ EntsAt w vc x.2.1.2.1 ∧ AffsAt w vl x.2.1.2.2.2 ∧ x.2.2.1.size ≤ maxLen ∧ x.2.2.2.size ≤ maxLen ∧ powTab w
def ReleaseOwn (lo hi : Nat) (w : World) (v : Value) (x : ReleaseM) : Prop := ReleaseAt w v x
def ReleaseSm (x : ReleaseM) : Prop := DeltaSm x.2.1
theorem ReleaseAt.form2 {w : World} {v : Value} {x : ReleaseM} (h : ReleaseAt w v x) : ∃ n a l c a' l' c' b a'' l'' c'' s s', v = .agg #[.int .i64 n, .slice a l c, .slice a' l' c', .bool b, .slice a'' l'' c'', .string s, .string s'] := by
  obtain ⟨vg, vc, vl, rfl, h1, h2, h3, -⟩ := h
  obtain ⟨a, c, rfl, _⟩ := h1.form
  obtain ⟨a', c', rfl, _⟩ := h2.form
  obtain ⟨a'', c'', rfl, _⟩ := h3.form
  exact ⟨_, _, _, _, _, _, _, _, _, _, _, _, _, rfl⟩
theorem ReleaseAt.below {w w' : World} {v : Value} {x : ReleaseM} (h : ReleaseAt w v x) (hb : Below w.heap.size w w') : ReleaseAt w' v x := by
  obtain ⟨vg, vc, vl, hv, h1, h2, h3, h4, h5, h6⟩ := h
  exact ⟨vg, vc, vl, hv, h1.below hb, h2.below hb, h3.below hb, h4, h5, h6.below hb⟩
theorem ReleaseOwn.at {lo hi : Nat} {w : World} {v : Value} {x : ReleaseM} (h : ReleaseOwn lo hi w v x) : ReleaseAt w v x := h
theorem ReleaseOwn.below {lo hi : Nat} {w w' : World} {v : Value} {x : ReleaseM} (h : ReleaseOwn lo hi w v x) (hb : Below w.heap.size w w') : ReleaseOwn lo hi w' v x := ReleaseAt.below h hb
end Go.Proofs.YtkepmjebnkcbgaaGreatDoor
/-
  A release that is answered: its rows are its own; compared, marked and held.
-/
namespace Go.Proofs.YtkepmjebnkcbgaaGreatDoor
open Go.RowKit
set_option linter.unusedVariables false
def RelAt (w : World) (v : Value) (x : ReleaseM) : Prop := ∃ vg vc vl, v = .agg #[.int .i64 x.1, vg, vc, .bool x.2.1.2.2.1, vl, .string x.2.2.1, .string x.2.2.2] ∧ DeltaAt w (.agg #[vg, vc, .bool x.2.1.2.2.1, vl]) x.2.1 ∧ x.2.2.1.size ≤ maxLen ∧ x.2.2.2.size ≤ maxLen
def RelOwn (lo hi : Nat) (w : World) (v : Value) (x : ReleaseM) : Prop := ∃ vg vc vl, v = .agg #[.int .i64 x.1, vg, vc, .bool x.2.1.2.2.1, vl, .string x.2.2.1, .string x.2.2.2] ∧ DeltaOwn lo hi w (.agg #[vg, vc, .bool x.2.1.2.2.1, vl]) x.2.1 ∧ x.2.2.1.size ≤ maxLen ∧ x.2.2.2.size ≤ maxLen
def relCnt (x : ReleaseM) : Nat := deltaCnt x.2.1
def relMk (k : Nat) (x : ReleaseM) : ReleaseM := (x.1, deltaMk k x.2.1, x.2.2.1, x.2.2.2)
theorem RelAt.form2 {w : World} {v : Value} {x : ReleaseM} (h : RelAt w v x) : ∃ n a l c a' l' c' b a'' l'' c'' s s', v = .agg #[.int .i64 n, .slice a l c, .slice a' l' c', .bool b, .slice a'' l'' c'', .string s, .string s'] := by
  obtain ⟨vg, vc, vl, rfl, h1, -, -⟩ := h
  obtain ⟨_, _, _, hv, k1, k2, k3⟩ := h1
  cases hv
  obtain ⟨a, c, rfl, _⟩ := k1.form
  obtain ⟨a', c', rfl, _⟩ := k2.form
  obtain ⟨a'', c'', rfl, _⟩ := k3.form
  exact ⟨_, _, _, _, _, _, _, _, _, _, _, _, _, rfl⟩
theorem RelAt.below {w w' : World} {v : Value} {x : ReleaseM} (h : RelAt w v x) (hb : Below w.heap.size w w') : RelAt w' v x := by
  obtain ⟨vg, vc, vl, hv, h1, h2⟩ := h
  exact ⟨vg, vc, vl, hv, h1.below hb, h2⟩
theorem RelOwn.at {lo hi : Nat} {w : World} {v : Value} {x : ReleaseM} (h : RelOwn lo hi w v x) : RelAt w v x := by
  obtain ⟨vg, vc, vl, hv, h1, h2⟩ := h
  exact ⟨vg, vc, vl, hv, h1.at, h2⟩
theorem RelOwn.below {lo hi : Nat} {w w' : World} {v : Value} {x : ReleaseM} (h : RelOwn lo hi w v x) (hb : Below w.heap.size w w') : RelOwn lo hi w' v x := by
  obtain ⟨vg, vc, vl, hv, h1, h2⟩ := h
  exact ⟨vg, vc, vl, hv, h1.below hb, h2⟩
theorem RelOwn.wr {lo hi l h' : Nat} {w w' : World} {v : Value} {x : ReleaseM} (h : RelOwn lo hi w v x) (hw : Wr l h' w w') (hl : h' ≤ lo) : RelOwn lo hi w' v x := by
  obtain ⟨vg, vc, vl, hv, h1, h2⟩ := h
  exact ⟨vg, vc, vl, hv, h1.wr hw hl, h2⟩
theorem deltaOwn_block486 {lo hi : Nat} {w w' : World} {v : Value} {x : DeltaM} (h : DeltaOwn lo hi w v x) (hb : ∀ g, lo ≤ g → g < hi → g < w.heap.size → w'.heap[g]? = w.heap[g]?) : DeltaOwn lo hi w' v x := by
  obtain ⟨vg, vc, vl, hv, h1, h2, h3⟩ := h
  exact ⟨vg, vc, vl, hv, ⟨h1.1.block fun g k1 k2 _ _ k3 => hb g k1 k2 k3, h1.2⟩, ⟨h2.1.block fun g k1 k2 _ _ k3 => hb g k1 k2 k3, h2.2⟩, ⟨h3.1.block fun g k1 k2 _ _ k3 => hb g k1 k2 k3, h3.2⟩⟩
theorem DeltaOwn.weak486 {lo hi lo' hi' : Nat} {w : World} {v : Value} {x : DeltaM} (h : DeltaOwn lo hi w v x) (hl : lo' ≤ lo) (hh : hi ≤ hi') : DeltaOwn lo' hi' w v x := by
  obtain ⟨vg, vc, vl, hv, h1, h2, h3⟩ := h
  exact ⟨vg, vc, vl, hv, h1.weak hl hh, h2.weak hl hh, h3.weak hl hh⟩
theorem deltaOwn_set486 {lo hi q o : Nat} {w : World} {v : Value} {x : DeltaM} (h : DeltaOwn lo hi w v x) (hq : q < lo ∨ hi ≤ q) (u : Value) : DeltaOwn lo hi (w.setCell ⟨q, o, none⟩ u) v x := deltaOwn_block486 h fun g h1 h2 _ => Below.heap_setCell _ _ _ g (by show g ≠ q; omega)
theorem deltaOwn_setRow486 {lo hi q : Nat} {w : World} {v : Value} {x : DeltaM} (h : DeltaOwn lo hi w v x) (hq : q < lo ∨ hi ≤ q) (cs : Array Value) : DeltaOwn lo hi (w.setRow q cs) v x := deltaOwn_block486 h fun g h1 h2 _ => setRow_other _ _ _ _ (by omega)
theorem relOwn_setRow486 {lo hi q : Nat} {w : World} {v : Value} {x : ReleaseM} (h : RelOwn lo hi w v x) (hq : q < lo ∨ hi ≤ q) (cs : Array Value) : RelOwn lo hi (w.setRow q cs) v x := by
  obtain ⟨vg, vc, vl, hv, h1, h2⟩ := h
  exact ⟨vg, vc, vl, hv, deltaOwn_setRow486 h1 hq cs, h2⟩
theorem RelOwn.weak {lo hi lo' hi' : Nat} {w : World} {v : Value} {x : ReleaseM} (h : RelOwn lo hi w v x) (hl : lo' ≤ lo) (hh : hi ≤ hi') : RelOwn lo' hi' w v x := by
  obtain ⟨vg, vc, vl, hv, h1, h2⟩ := h
  exact ⟨vg, vc, vl, hv, h1.weak486 hl hh, h2⟩
theorem RelAt.release {w : World} {v : Value} {x : ReleaseM} (h : RelAt w v x) (ht : powTab w) : ReleaseAt w v x := by
  obtain ⟨vg, vc, vl, rfl, h1, hu, he⟩ := h
  obtain ⟨_, _, _, hv, k1, k2, k3⟩ := h1
  cases hv
  exact ⟨vg, vc, vl, rfl, k1, k2, k3, hu, he, ht⟩
theorem relNil486 (lo hi : Nat) (w : World) : RelOwn lo hi w (.agg #[.int .i64 0, .slice none 0 0, .slice none 0 0, .bool false, .slice none 0 0, .string ⟨#[]⟩, .string ⟨#[]⟩]) (0, ([], [], false, []), ⟨#[]⟩, ⟨#[]⟩) :=
  ⟨_, _, _, rfl, ⟨_, _, _, rfl, ⟨⟨none, 0, rfl, Nat.le_refl _, Nat.zero_le _, fun hn => absurd rfl hn⟩, fun i x hx => by simp at hx⟩, ⟨⟨none, 0, rfl, Nat.le_refl _, Nat.zero_le _, fun hn => absurd rfl hn⟩, fun i x hx => by simp at hx⟩, ⟨⟨none, 0, rfl, Nat.le_refl _, Nat.zero_le _, fun hn => absurd rfl hn⟩, fun i x hx => by simp at hx⟩⟩, Nat.zero_le _, Nat.zero_le _⟩
set_option maxHeartbeats 1000000 in
theorem eqRel_u (w : World) (v u : Value) (x : ReleaseM) (h : RelAt w v x) (h' : RelAt w u x) :
    Calls Tryz.prog 11 #[v, u] w fun e w' => e = .returned (.bool true) ∧ Below w.heap.size w w' := by
  obtain ⟨vg, vc, vl, rfl, ⟨_, _, _, hv, h1, h2, h3⟩, hu, he⟩ := h
  cases hv
  obtain ⟨a, c, rfl, -⟩ := h1.form
  obtain ⟨a1, c1, rfl, -⟩ := h2.form
  obtain ⟨a2, c2, rfl, -⟩ := h3.form
  obtain ⟨n, ⟨gs, es, af, xs⟩, su, se⟩ := x
  dsimp only at *
  obtain ⟨vg, vc, vl, rfl, ⟨_, _, _, hv, g1, g2, g3⟩, -, -⟩ := h'
  cases hv
  obtain ⟨b, d, rfl, -⟩ := g1.form
  obtain ⟨b1, d1, rfl, -⟩ := g2.form
  obtain ⟨b2, d2, rfl, -⟩ := g3.form
  dsimp only at *
  have HB0 : Hid (Below w.heap.size w ((w.alloc (.cells #[.int .i64 n, .slice a gs.length c, .slice a1 es.length c1, .bool af, .slice a2 xs.length c2, .string su, .string se] 37)).alloc (.cells #[.int .i64 n, .slice b gs.length d, .slice b1 es.length d1, .bool af, .slice b2 xs.length d2, .string su, .string se] 37))) := ((Below.refl _ _).alloc (Nat.le_refl _) _).alloc (by simp <;> omega) _
  have HD : Hid (TextsAt w (.slice a gs.length c) gs ∧ EntsAt w (.slice a1 es.length c1) es ∧ AffsAt w (.slice a2 xs.length c2) xs) := ⟨h1, h2, h3⟩
  have HG : Hid (TextsAt w (.slice b gs.length d) gs ∧ EntsAt w (.slice b1 es.length d1) es ∧ AffsAt w (.slice b2 xs.length d2) xs) := ⟨g1, g2, g3⟩
  clear h1 h2 h3 g1 g2 g3
  go_enter Tryz.func11, Tryz.ntmps11
  go_wp2_with fail
  refine (eqDelta_same _ _ _ _ _ _ _ af gs es xs (HD.out.1.below HB0.out) (HD.out.2.1.below HB0.out) (HD.out.2.2.below HB0.out) (HG.out.1.below HB0.out) (HG.out.2.1.below HB0.out) (HG.out.2.2.below HB0.out)).mono ?_
  rintro e w1 ⟨rfl, hb1⟩
  have HB1 : Hid (Below w.heap.size w w1) := HB0.out.trans (hb1.mono HB0.out.size)
  have k05 : w1.cell? ⟨w.heap.size, 5, none⟩ = some (.string su) := (hb1.cell (p := ⟨w.heap.size, 5, none⟩) (by simp <;> omega)).trans (by simp [go_sem])
  have k06 : w1.cell? ⟨w.heap.size, 6, none⟩ = some (.string se) := (hb1.cell (p := ⟨w.heap.size, 6, none⟩) (by simp <;> omega)).trans (by simp [go_sem])
  have k15 : w1.cell? ⟨w.heap.size + 1, 5, none⟩ = some (.string su) := (hb1.cell (p := ⟨w.heap.size + 1, 5, none⟩) (by simp <;> omega)).trans (by simp [go_sem])
  have k16 : w1.cell? ⟨w.heap.size + 1, 6, none⟩ = some (.string se) := (hb1.cell (p := ⟨w.heap.size + 1, 6, none⟩) (by simp <;> omega)).trans (by simp [go_sem])
  clear hb1
  go_wp2
  go_ret
  exact ⟨rfl, HB1.out⟩
set_option maxHeartbeats 1000000 in
theorem markRel_u (lo hi k : Nat) (w : World) (v : Value) (x : ReleaseM) (h : RelOwn lo hi w v x) (hs : ReleaseSm x) (hk : k ≤ 10000000000) (hlo : hi ≤ w.heap.size) (hlh : lo ≤ hi) :
    Calls Tryz.prog 16 #[v, .int .i64 k] w fun e w' => e = .returned (.int .i64 ((k + relCnt x : Nat) : Int)) ∧ RelOwn lo hi w' v (relMk k x) ∧ Wr lo hi w w' := by
  obtain ⟨a0, a1, a2, a3, a4, a5, a6, a7, a8, a9, a10, a11, a12, hv0⟩ := h.at.form2
  obtain ⟨vg, vc, vl, hv, h1, hu, he⟩ := h
  subst hv
  cases hv0
  have HD : Hid (DeltaOwn lo hi w (.agg #[.slice a1 a2 a3, .slice a4 a5 a6, .bool x.2.1.2.2.1, .slice a8 a9 a10]) x.2.1) := h1
  have HU : Hid (x.2.2.1.size ≤ maxLen ∧ x.2.2.2.size ≤ maxLen) := ⟨hu, he⟩
  obtain ⟨W, hW⟩ : ∃ W, w.alloc (.cells #[.int .i64 x.1, .slice a1 a2 a3, .slice a4 a5 a6, .bool x.2.1.2.2.1, .slice a8 a9 a10, .string x.2.2.1, .string x.2.2.2] 37) = W := ⟨_, rfl⟩
  have HB0 : Hid (Below w.heap.size w W) := by show Below _ _ _; rw [← hW]; exact (Below.refl _ _).alloc (Nat.le_refl _) _
  have hz : w.heap.size < W.heap.size := by rw [← hW]; simp
  have N0 : W.heap[w.heap.size]? = some (.cells #[.int .i64 x.1, .slice a1 a2 a3, .slice a4 a5 a6, .bool x.2.1.2.2.1, .slice a8 a9 a10, .string x.2.2.1, .string x.2.2.2] 37 (0, 0)) := by rw [← hW]; exact heap_alloc_last w _
  have c1 : W.cell? ⟨w.heap.size, 1, none⟩ = some (.slice a1 a2 a3) := by rw [cell_of_row _ _ 1 _ _ _ N0]; rfl
  have c2 : W.cell? ⟨w.heap.size, 2, none⟩ = some (.slice a4 a5 a6) := by rw [cell_of_row _ _ 2 _ _ _ N0]; rfl
  have c3 : W.cell? ⟨w.heap.size, 3, none⟩ = some (.bool x.2.1.2.2.1) := by rw [cell_of_row _ _ 3 _ _ _ N0]; rfl
  have c4 : W.cell? ⟨w.heap.size, 4, none⟩ = some (.slice a8 a9 a10) := by rw [cell_of_row _ _ 4 _ _ _ N0]; rfl
  have HW : Hid (w.alloc (.cells #[.int .i64 x.1, .slice a1 a2 a3, .slice a4 a5 a6, .bool x.2.1.2.2.1, .slice a8 a9 a10, .string x.2.2.1, .string x.2.2.2] 37) = W) := hW
  clear h1 hW N0
  go_enter Tryz.func16, Tryz.ntmps16
  go_wp2_with fail
  try rw [HW.out]
  refine (markDelta_u lo hi k W _ x.2.1 (HD.out.below HB0.out) hs hk (by omega) hlh).mono ?_
  rintro e w1 ⟨rfl, h1, hw1⟩
  have HW1 : Hid (Wr lo hi w w1) := (Wr.of_below HB0.out (by omega)).trans hw1
  have H1 : Hid (DeltaOwn lo hi w1 (.agg #[.slice a1 a2 a3, .slice a4 a5 a6, .bool x.2.1.2.2.1, .slice a8 a9 a10]) (deltaMk k x.2.1)) := h1
  clear h1 hw1 c1 c2 c3 c4
  go_wp2
  go_ret
  exact ⟨rfl, ⟨_, _, _, rfl, H1.out, HU.out.1, HU.out.2⟩, HW1.out⟩
set_option maxHeartbeats 1000000 in
theorem heldRel_u (w : World) (v : Value) (k : Nat) (x : ReleaseM) (h : RelAt w v (relMk k x)) (hs : ReleaseSm x) (hk : k ≤ 100000000) :
    Calls Tryz.prog 17 #[v, .int .i64 k] w fun e w' => e = .returned (.int .i64 ((k + relCnt x : Nat) : Int)) ∧ Below w.heap.size w w' := by
  obtain ⟨a0, a1, a2, a3, a4, a5, a6, a7, a8, a9, a10, a11, a12, hv0⟩ := h.form2
  obtain ⟨vg, vc, vl, hv, h1, hu, he⟩ := h
  subst hv
  cases hv0
  have HD : Hid (DeltaAt w (.agg #[.slice a1 a2 a3, .slice a4 a5 a6, .bool (relMk k x).2.1.2.2.1, .slice a8 a9 a10]) (deltaMk k x.2.1)) := h1
  have HN : Hid (deltaCnt x.2.1 ≤ 100000000) := by
    show _ ≤ _
    obtain ⟨s1, s2, s3⟩ := hs
    unfold deltaCnt
    omega
  clear h1
  obtain ⟨K, hK⟩ : ∃ K, k + deltaCnt x.2.1 = K := ⟨_, rfl⟩
  have hK2 : ¬ ((K : Int) < 0) := by omega
  have HK : Hid (k + deltaCnt x.2.1 = K) := hK
  have HB0 : Hid (Below w.heap.size w (w.alloc (.cells #[.int .i64 (relMk k x).1, .slice a1 a2 a3, .slice a4 a5 a6, .bool (relMk k x).2.1.2.2.1, .slice a8 a9 a10, .string (relMk k x).2.2.1, .string (relMk k x).2.2.2] 37))) := (Below.refl _ _).alloc (Nat.le_refl _) _
  clear hK
  go_enter Tryz.func17, Tryz.ntmps17
  go_wp2_with fail
  refine (cK (heldDelta_u _ _ k x.2.1 (HD.out.below HB0.out) hs (by omega)) HK.out).mono ?_
  rintro e w1 ⟨rfl, hb1⟩
  have HB1 : Hid (Below w.heap.size w w1) := HB0.out.trans (hb1.mono HB0.out.size)
  clear hb1
  go_wp2
  go_ret
  exact ⟨by rw [show k + relCnt x = K from HK.out]; rfl, HB1.out⟩
end Go.Proofs.YtkepmjebnkcbgaaGreatDoor
