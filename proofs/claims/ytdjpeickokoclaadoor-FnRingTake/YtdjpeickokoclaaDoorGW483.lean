/-
  A turn made: impl.TurnOf.
-/
import Derived.Test.YtdjpeickokoclaaDoorGW473
import Derived.Test.YtdjpeickokoclaaDoorGW407
namespace Go.Proofs.YtdjpeickokoclaaDoor
open Go.RowKit
set_option linter.unusedVariables false
abbrev TurnM := ByteArray × Int × ByteArray
def turnV (t : TurnM) : Value := .agg #[.string t.1, .int .i64 t.2.1, .string t.2.2]
def longT (x : RingM) (key : ByteArray) (fr : Int) : RingM := (x.1 ++ [key], x.2 ++ [fr])
def lastK (x : RingM) : ByteArray := x.1.getD (x.1.length - 1) ⟨#[]⟩
noncomputable def tofB (x : RingM) (key : ByteArray) (fr : Int) : Bool := ringOk x && ringOk (longT x key fr)
noncomputable def tofT (x : RingM) (key : ByteArray) (fr : Int) : TurnM := if tofB x key fr then (key, fr, sealT (lastK x) (turnB key fr)) else (⟨#[]⟩, 0, ⟨#[]⟩)
theorem good_pos {x : RingM} (h : RingGood x) : ∀ (i : Nat) (a : Int), x.2[i]? = some a → 1 ≤ a
  | 0, a, ha => by
    have h1 := h.2.2.2.1
    rw [ha] at h1
    have := Option.some.inj h1
    omega
  | i + 1, a, ha => by
    have hi : i < x.2.length := by have := (List.getElem?_eq_some_iff.1 ha).1; omega
    have h1 := good_pos h i (x.2[i]) (List.getElem?_eq_getElem hi)
    have h2 := h.2.2.2.2.2.1 i (x.2[i]) a (List.getElem?_eq_getElem hi) ha
    omega
theorem long_parts {x : RingM} {key : ByteArray} {fr : Int} (h : RingGood (longT x key fr)) : 1 ≤ fr ∧ fr ≤ 999999 ∧ keyT key = true := by
  have hl : (x.2 ++ [fr])[x.2.length]? = some fr := by rw [List.getElem?_append_right (Nat.le_refl _), Nat.sub_self]; rfl
  have hk : (x.1 ++ [key])[x.1.length]? = some key := by rw [List.getElem?_append_right (Nat.le_refl _), Nat.sub_self]; rfl
  exact ⟨good_pos h x.2.length fr hl, h.2.2.2.2.2.2 x.2.length fr hl, (h.2.2.2.2.1 x.1.length key hk).1⟩
theorem last_at {x : RingM} (h : RingGood x) : x.1[x.1.length - 1]? = some (lastK x) := by
  have h1 : x.1.length - 1 < x.1.length := by have := h.1; omega
  unfold lastK
  rw [List.getD_eq_getElem?_getD, List.getElem?_eq_getElem h1]
  rfl
theorem tof_no1 {x : RingM} (key : ByteArray) (fr : Int) (h : ringOk x = false) : tofB x key fr = false ∧ tofT x key fr = (⟨#[]⟩, 0, ⟨#[]⟩) := by
  have e : tofB x key fr = false := by unfold tofB; rw [h]; rfl
  refine ⟨e, ?_⟩
  unfold tofT
  rw [e]
  rfl
theorem tof_no2 {x : RingM} {key : ByteArray} {fr : Int} (h : ringOk (longT x key fr) = false) : tofB x key fr = false ∧ tofT x key fr = (⟨#[]⟩, 0, ⟨#[]⟩) := by
  have e : tofB x key fr = false := by unfold tofB; rw [h, Bool.and_false]
  refine ⟨e, ?_⟩
  unfold tofT
  rw [e]
  rfl
theorem tof_yes {x : RingM} {key : ByteArray} {fr : Int} (h : ringOk x = true) (h2 : ringOk (longT x key fr) = true) : tofB x key fr = true ∧ tofT x key fr = (key, fr, sealT (lastK x) (turnB key fr)) := by
  have e : tofB x key fr = true := by unfold tofB; rw [h, h2]; rfl
  refine ⟨e, ?_⟩
  unfold tofT
  rw [e]
  rfl
theorem ret_turn {a b : TurnM} {p q : Bool} (h : a = b) (h2 : p = q) : Ending.returned (.tuple #[turnV a, .bool p]) = .returned (.tuple #[turnV b, .bool q]) := by rw [h, h2]
set_option maxRecDepth 100000 in
set_option maxHeartbeats 4000000 in
theorem implTurnOf_any (w : World) (v : Value) (x : RingM) (key : ByteArray) (fr : Int) (h : RingAt w v x) (hk : key.size ≤ maxLen) (hP : powTab w) (hR : roundTab w) (hF : firstTab w) :
    Calls Tryd.prog 14 #[v, .string key, .int .i64 fr] w fun e w' => e = .returned (.tuple #[turnV (tofT x key fr), .bool (tofB x key fr)]) ∧ Below w.heap.size w w' := by
  obtain ⟨a, l, cap, a', l', cap', rfl⟩ := h.form2
  have HR : Hid (RingAt w (.agg #[.slice a l cap, .slice a' l' cap']) x) := h
  have HTP : Hid (powTab w) := hP
  have HTR : Hid (roundTab w) := hR
  have HTF : Hid (firstTab w) := hF
  have HK : Hid (key.size ≤ maxLen) := hk
  obtain ⟨W, hW⟩ : ∃ W, (w.alloc (.cells #[.slice a l cap, .slice a' l' cap'] 26)).alloc (.cells #[.string ⟨#[]⟩, .int .i64 0, .string ⟨#[]⟩] 28) = W := ⟨_, rfl⟩
  have N0 : W.heap[w.heap.size]? = some (.cells #[.slice a l cap, .slice a' l' cap'] 26 (0, 0)) := by rw [← hW]; exact heap_alloc2_old _ _ _
  have N1 : W.heap[w.heap.size + 1]? = some (.cells #[.string ⟨#[]⟩, .int .i64 0, .string ⟨#[]⟩] 28 (0, 0)) := by rw [← hW]; exact heap_alloc2_new _ _ _
  have HB0 : Hid (Below w.heap.size w W) := by show Below _ _ _; rw [← hW]; exact ((Below.refl _ _).alloc (Nat.le_refl _) _).alloc (by simp <;> omega) _
  have hz1 : w.heap.size + 1 < W.heap.size := (Array.getElem?_eq_some_iff.1 N1).1
  have HN0 : Hid (W.heap[w.heap.size]? = some (.cells #[.slice a l cap, .slice a' l' cap'] 26 (0, 0))) := N0
  have HN1 : Hid (W.heap[w.heap.size + 1]? = some (.cells #[.string ⟨#[]⟩, .int .i64 0, .string ⟨#[]⟩] 28 (0, 0))) := N1
  have HW : Hid ((w.alloc (.cells #[.slice a l cap, .slice a' l' cap'] 26)).alloc (.cells #[.string ⟨#[]⟩, .int .i64 0, .string ⟨#[]⟩] 28) = W) := hW
  have HC : Hid (∀ (w : World) (v : Value) (x : RingM), RingAt w v x → Calls Tryd.prog 11 #[v] w fun e w' => e = .returned (.bool (ringOk x)) ∧ Below w.heap.size w w') := fun w v x h => implRingOk_any w v x h
  have HCELL : Hid (∀ (V : World), Below W.heap.size W V → (V.cell? ⟨w.heap.size, 0, none⟩ = some (.slice a l cap) ∧ V.cell? ⟨w.heap.size, 1, none⟩ = some (.slice a' l' cap')) ∧ (V.cell? ⟨w.heap.size + 1, 0, none⟩ = some (.string ⟨#[]⟩) ∧ V.cell? ⟨w.heap.size + 1, 1, none⟩ = some (.int .i64 0) ∧ V.cell? ⟨w.heap.size + 1, 2, none⟩ = some (.string ⟨#[]⟩)) ∧ ∀ i, V.frozen? ⟨w.heap.size + 1, i, none⟩ = false) := fun V hV => by
    have e0 : V.heap[w.heap.size]? = _ := (hV.block _ (by omega)).trans N0
    have e1 : V.heap[w.heap.size + 1]? = _ := (hV.block _ hz1).trans N1
    exact ⟨⟨by rw [cell_of_row _ _ 0 _ _ _ e0]; rfl, by rw [cell_of_row _ _ 1 _ _ _ e0]; rfl⟩, ⟨by rw [cell_of_row _ _ 0 _ _ _ e1]; rfl, by rw [cell_of_row _ _ 1 _ _ _ e1]; rfl, by rw [cell_of_row _ _ 2 _ _ _ e1]; rfl⟩, fun i => frozen_of_row _ _ i _ _ e1⟩
  obtain ⟨⟨s0, s1⟩, -, -⟩ := HCELL.out W (Below.refl _ _)
  clear h hP hR hF hk hW N0 N1
  cases hok : ringOk x with
  | false =>
    have HM := tof_no1 key fr hok
    have HMM : Hid (tofB x key fr = false ∧ tofT x key fr = (⟨#[]⟩, 0, ⟨#[]⟩)) := HM
    clear HM
    go_enter Tryd.func14, Tryd.ntmps14
    go_wp2_with fail
    try rw [HW.out]
    refine (HC.out _ _ x (HR.out.below HB0.out)).mono ?_
    rintro e w1 ⟨rfl, hb1⟩
    rw [hok]
    obtain ⟨-, ⟨d0, d1, d2⟩, fz⟩ := HCELL.out w1 hb1
    have f0 := fz 0
    have f1 := fz 1
    have f2 := fz 2
    have HB1 : Hid (Below w.heap.size w w1) := HB0.out.trans (hb1.mono (by omega))
    clear hb1 fz
    go_wp2
    refine bodyPost_ret (v := .tuple #[.agg #[.string ⟨#[]⟩, .int .i64 0, .string ⟨#[]⟩], .bool false]) (by simp [results, Tryd.results14, go_sem, d0, d1, d2, World.cell?_setCell_same', World.cell?_setCell_other]) rfl ⟨(ret_turn HMM.out.2 HMM.out.1).symm, ?_⟩
    exact ((HB1.out.setCell (Nat.le_succ _) _).setCell (Nat.le_succ _) _).setCell (Nat.le_succ _) _
  | true =>
    have HG : Hid (RingGood x) := ringOk_good hok
    have hl5 : x.1.length ≤ 5 := HG.out.2.1
    have hl6 : x.2.length ≤ 5 := by have := HG.out.2.2.1; omega
    cases hok2 : ringOk (longT x key fr) with
    | false =>
      have HMM : Hid (tofB x key fr = false ∧ tofT x key fr = (⟨#[]⟩, 0, ⟨#[]⟩)) := tof_no2 hok2
      go_enter Tryd.func14, Tryd.ntmps14
      go_wp2_with fail
      try rw [HW.out]
      refine (HC.out _ _ x (HR.out.below HB0.out)).mono ?_
      rintro e w1 ⟨rfl, hb1⟩
      rw [hok]
      obtain ⟨⟨t0, t1⟩, -, -⟩ := HCELL.out w1 hb1
      have HX1 : Hid (Below W.heap.size W w1) := hb1
      have HB1 : Hid (Below w.heap.size w w1) := HB0.out.trans (hb1.mono (by omega))
      clear hb1
      go_wp2_with fail
      refine (longerRing_any _ _ x key fr (HR.out.below HB1.out) (by omega) (by omega) HK.out).mono ?_
      rintro e w2 ⟨v2, rfl, ho2, hb2⟩
      have HO2 : Hid (RingAt w2 v2 (longT x key fr)) := ho2.at
      have HX2 : Hid (Below W.heap.size W w2) := HX1.out.trans (hb2.mono HX1.out.size)
      have HB2 : Hid (Below w.heap.size w w2) := HB1.out.trans (hb2.mono HB1.out.size)
      clear ho2 hb2
      go_wp2_with fail
      refine (HC.out _ _ _ HO2.out).mono ?_
      rintro e w3 ⟨rfl, hb3⟩
      rw [hok2]
      have HX3 : Below W.heap.size W w3 := HX2.out.trans (hb3.mono HX2.out.size)
      obtain ⟨-, ⟨d0, d1, d2⟩, fz⟩ := HCELL.out w3 HX3
      have f0 := fz 0
      have f1 := fz 1
      have f2 := fz 2
      have HB3 : Hid (Below w.heap.size w w3) := HB2.out.trans (hb3.mono HB2.out.size)
      clear hb3 fz HX3 t0 t1 s0 s1
      go_wp2
      refine bodyPost_ret (v := .tuple #[.agg #[.string ⟨#[]⟩, .int .i64 0, .string ⟨#[]⟩], .bool false]) (by simp [results, Tryd.results14, go_sem, d0, d1, d2, World.cell?_setCell_same', World.cell?_setCell_other]) rfl ⟨(ret_turn HMM.out.2 HMM.out.1).symm, ?_⟩
      exact ((HB3.out.setCell (Nat.le_succ _) _).setCell (Nat.le_succ _) _).setCell (Nat.le_succ _) _
    | true =>
      have HMM : Hid (tofB x key fr = true ∧ tofT x key fr = (key, fr, sealT (lastK x) (turnB key fr))) := tof_yes hok hok2
      obtain ⟨q1, q2, q3⟩ := long_parts (ringOk_good hok2)
      have hks : key.size ≤ 64 := keyT_size q3
      have hla := last_at HG.out
      go_enter Tryd.func14, Tryd.ntmps14
      go_wp2_with fail
      try rw [HW.out]
      refine (HC.out _ _ x (HR.out.below HB0.out)).mono ?_
      rintro e w1 ⟨rfl, hb1⟩
      rw [hok]
      obtain ⟨⟨t0, t1⟩, -, -⟩ := HCELL.out w1 hb1
      have HX1 : Hid (Below W.heap.size W w1) := hb1
      have HB1 : Hid (Below w.heap.size w w1) := HB0.out.trans (hb1.mono (by omega))
      have HLA : Hid (x.1[x.1.length - 1]? = some (lastK x)) := hla
      clear hb1 hla
      go_wp2_with fail
      refine (longerRing_any _ _ x key fr (HR.out.below HB1.out) (by omega) (by omega) HK.out).mono ?_
      rintro e w2 ⟨v2, rfl, ho2, hb2⟩
      have HO2 : Hid (RingAt w2 v2 (longT x key fr)) := ho2.at
      have HX2 : Hid (Below W.heap.size W w2) := HX1.out.trans (hb2.mono HX1.out.size)
      have HB2 : Hid (Below w.heap.size w w2) := HB1.out.trans (hb2.mono HB1.out.size)
      clear ho2 hb2
      go_wp2_with fail
      refine (HC.out _ _ _ HO2.out).mono ?_
      rintro e w3 ⟨rfl, hb3⟩
      rw [hok2]
      have HX3 : Hid (Below W.heap.size W w3) := HX2.out.trans (hb3.mono HX2.out.size)
      have HB3 : Hid (Below w.heap.size w w3) := HB2.out.trans (hb3.mono HB2.out.size)
      obtain ⟨va, vn, hvv, ha, hn⟩ := HR.out
      cases hvv
      obtain ⟨_, _, hva, hc, hm⟩ := ha.form
      cases hva
      have hl1 : x.1.length - 1 < x.1.length := by have := HG.out.1; omega
      obtain ⟨b, off, cap1, y, hv, hbl, hy, hyf, c0⟩ := (ha.below HB3.out).at (k := x.1.length - 1) hl1
      cases hv
      have hyk : lastK x = y := by rw [HLA.out] at hy; exact Option.some.inj hy
      obtain ⟨n, hnn⟩ : ∃ n, x.1.length = n := ⟨_, rfl⟩
      obtain ⟨m, hmm⟩ : ∃ m, n - 1 = m := ⟨_, rfl⟩
      rw [hnn, hmm] at c0
      rw [hnn] at hl1 hl5
      obtain ⟨⟨t2, t3⟩, -, -⟩ := HCELL.out w3 HX3.out
      rw [hnn] at t2
      have hw1 : IntKind.i64.wrap ((n : Int) - 1) = (m : Int) := by rw [show (n : Int) - 1 = (m : Int) by omega]; exact IntWalk.i64_in _ (by omega)
      have hmn : (m : Int) < (n : Int) := by omega
      have hm0 : (0 : Int) ≤ (m : Int) := by omega
      have HY : Hid (sealT (lastK x) (turnB key fr) = sealT y (turnB key fr)) := by show _ = _; rw [hyk]
      have HYF : Hid (y.size ≤ maxLen) := hyf
      have HTL : Hid ((turnB key fr).size ≤ 1900000) := by
        have := turn_len (key := key) (fr := fr) (by omega) (by omega)
        show (turnB key fr).size ≤ _
        unfold turnB
        rw [str_sz]
        omega
      clear hb3 t0 t1 ha hn hc hm hy hyk hyf hnn hmm hbl s0 s1
      go_wp2_with fail
      refine (implTurnText_any _ key fr (by omega) (by omega) (by omega) (HTP.out.below HB3.out)).mono ?_
      rintro e w4 ⟨rfl, hb4⟩
      have HX4 : Hid (Below W.heap.size W w4) := HX3.out.trans (hb4.mono HX3.out.size)
      have HB4 : Hid (Below w.heap.size w w4) := HB3.out.trans (hb4.mono HB3.out.size)
      clear hb4 c0 t2 t3
      go_wp2_with fail
      refine (implSealOf_any _ y (turnB key fr) HYF.out HTL.out (HTR.out.below HB4.out) (HTF.out.below HB4.out)).mono ?_
      rintro e w5 ⟨rfl, hb5⟩
      have HX5 : Below W.heap.size W w5 := HX4.out.trans (hb5.mono HX4.out.size)
      have HB5 : Hid (Below w.heap.size w w5) := HB4.out.trans (hb5.mono HB4.out.size)
      obtain ⟨-, ⟨d0, d1, d2⟩, fz⟩ := HCELL.out w5 HX5
      have f0 := fz 0
      have f1 := fz 1
      have f2 := fz 2
      clear hb5 fz HX5
      go_wp2
      refine bodyPost_ret (v := .tuple #[.agg #[.string key, .int .i64 fr, .string (sealT y (turnB key fr))], .bool true]) (by simp [results, Tryd.results14, go_sem, d0, d1, d2, World.cell?_setCell_same', World.cell?_setCell_other]) rfl ⟨?_, ?_⟩
      · rw [HMM.out.1, HMM.out.2, HY.out]
        rfl
      · exact ((HB5.out.setCell (Nat.le_succ _) _).setCell (Nat.le_succ _) _).setCell (Nat.le_succ _) _
end Go.Proofs.YtdjpeickokoclaaDoor
/-
  The last key of a ring, a ring copied: spec.l11Last, spec.l11Copy.
-/
namespace Go.Proofs.YtdjpeickokoclaaDoor
open Go.RowKit
set_option linter.unusedVariables false
set_option maxHeartbeats 2000000 in
theorem l11Last_any (w : World) (v : Value) (x : RingM) (h : RingAt w v x) (h1 : 1 ≤ x.1.length) (h5 : x.1.length ≤ 5) :
    Calls Tryd.prog 37 #[v] w fun e w' => e = .returned (.string (lastK x)) ∧ Below w.heap.size w w' := by
  obtain ⟨va, vn, rfl, ha, hn⟩ := h
  obtain ⟨ks, ns⟩ := x
  simp only at ha hn h1 h5
  obtain ⟨a, cap, rfl, hc, hm⟩ := ha.form
  obtain ⟨a', cap', rfl, hc', hm'⟩ := hn.form
  have HB0 : Hid (Below w.heap.size w (w.alloc (.cells #[.slice a ks.length cap, .slice a' ns.length cap'] 26))) := (Below.refl _ _).alloc (Nat.le_refl _) _
  have hl1 : ks.length - 1 < ks.length := by omega
  obtain ⟨b, off, cap1, y, hv, hbl, hy, hyf, c0⟩ := (ha.below HB0.out).at (k := ks.length - 1) hl1
  cases hv
  have HY : Hid (lastK (ks, ns) = y) := by
    show lastK (ks, ns) = y
    unfold lastK
    dsimp only
    rw [List.getD_eq_getElem?_getD, hy]
    rfl
  obtain ⟨n, hnn⟩ : ∃ n, ks.length = n := ⟨_, rfl⟩
  obtain ⟨m, hmm⟩ : ∃ m, n - 1 = m := ⟨_, rfl⟩
  rw [hnn] at c0 h1 h5 hl1 HB0 ⊢
  rw [hmm] at c0
  have hw1 : IntKind.i64.wrap ((n : Int) - 1) = (m : Int) := by rw [show (n : Int) - 1 = (m : Int) by omega]; exact IntWalk.i64_in _ (by omega)
  have hmn : (m : Int) < (n : Int) := by omega
  have hm0 : (0 : Int) ≤ (m : Int) := by omega
  clear ha hn hc hm hc' hm' hy hyf hbl hnn hmm hl1
  go_enter Tryd.func37, Tryd.ntmps37
  go_wp2
  go_ret
  exact ⟨by rw [HY.out]; rfl, HB0.out⟩
end Go.Proofs.YtdjpeickokoclaaDoor
/-
  A ring copied: spec.l11Copy.
-/
namespace Go.Proofs.YtdjpeickokoclaaDoor
open Go.RowKit
set_option linter.unusedVariables false
theorem _root_.Go.World.ownsRow.kept441 {w w' : World} {lo : Nat} {e : TypeId} {s n : Nat} {v : Value} {xs : List Value} (h : w.ownsRow lo e s v n xs) (hb : Below w.heap.size w w') : Hid (w'.ownsRow lo e s v n xs) := owns_below h hb
theorem owns_low476 {w : World} {lo b : Nat} {e : TypeId} {s n : Nat} {v : Value} {xs : List Value} (h : w.ownsRow lo e s v n xs) (hb : b < lo) (o : Nat) (u : Value) : (w.setCell ⟨b, o, none⟩ u).ownsRow lo e s v n xs := by
  refine ⟨h.1, ?_⟩
  rcases h.2 with h0 | ⟨g, cap, cur, hv, hlo, hg, r⟩
  · exact .inl h0
  · exact .inr ⟨g, cap, cur, hv, hlo, by rw [Below.heap_setCell _ _ _ _ (by show g ≠ b; omega)]; exact hg, r⟩
theorem ring_of_rows {w : World} {lo hi : Nat} {v1 v2 : Value} {ks : List ByteArray} {ns : List Int} (h1 : TextsRow lo hi w v1 ks) (h2 : IntsRow lo hi w v2 ns) : RingOwn lo hi w (.agg #[v1, v2]) (ks, ns) := ⟨_, _, rfl, h1, h2⟩
set_option maxHeartbeats 8000000 in
theorem l11Copy_any (w : World) (v : Value) (x : RingM) (h : RingAt w v x) (hk0 : 1 ≤ x.1.length) (hn0 : 1 ≤ x.2.length) (hk1 : x.1.length ≤ 1000) (hk2 : x.2.length ≤ 1000) :
    Calls Tryd.prog 25 #[v] w fun e w' => ∃ g1 n1 c1 g2 n2 c2, e = .returned (.agg #[.slice g1 n1 c1, .slice g2 n2 c2]) ∧ w'.ownsRow w.heap.size 9 1 (.slice g1 n1 c1) x.1.length (texts x.1) ∧ w'.ownsRow w.heap.size 3 1 (.slice g2 n2 c2) x.2.length (intsV x.2) ∧ Below w.heap.size w w' := by
  obtain ⟨va, vn, rfl, ha, hn⟩ := h
  obtain ⟨ks, ns⟩ := x
  simp only at ha hn hk1 hk2 hk0 hn0
  obtain ⟨b, off, cap, x0, hv, hbl, hx, _⟩ := ha.at (k := 0) (by omega)
  cases hv
  obtain ⟨b', off', cap', x0', hv, hbl', hx', _⟩ := hn.at (k := 0) (by omega)
  cases hv
  have HA : Hid (TextsAt w (.slice (some ⟨b, off, none⟩) ks.length cap) ks) := ha
  have HN : Hid (IntsAt w (.slice (some ⟨b', off', none⟩) ns.length cap') ns) := hn
  clear ha hn hx hx'
  obtain ⟨i3, hi3, hz3, hs3, hb3⟩ := info_parts Tryd.info_str405
  obtain ⟨i4, hi4, hz4, hs4, hb4⟩ := info_parts Tryd.info_int405
  obtain ⟨W0, hW0⟩ : ∃ W0, ((w.alloc (.cells #[.slice (some ⟨b, off, none⟩) ks.length cap, .slice (some ⟨b', off', none⟩) ns.length cap'] 26)).alloc (.cells #[.slice none 0 0, .slice none 0 0] 26)) = W0 := ⟨_, rfl⟩
  have L0 : Hid (Below w.heap.size w W0) := by rw [← hW0]; exact ((Below.refl _ _).alloc (Nat.le_refl _) _).alloc (by simp) _
  have B0 : Hid (W0.heap[w.heap.size]? = some (.cells #[.slice (some ⟨b, off, none⟩) ks.length cap, .slice (some ⟨b', off', none⟩) ns.length cap'] 26 (0, 0))) := by show _ = _; rw [← hW0]; exact heap_alloc2_old _ _ _
  have R0 : Hid (W0.heap[w.heap.size + 1]? = some (.cells #[.slice none 0 0, .slice none 0 0] 26 (0, 0))) := by show _ = _; rw [← hW0]; exact heap_alloc2_new _ _ _
  have hz0 : w.heap.size + 1 < W0.heap.size := (Array.getElem?_eq_some_iff.1 R0.out).1
  have HW0 : Hid (((w.alloc (.cells #[.slice (some ⟨b, off, none⟩) ks.length cap, .slice (some ⟨b', off', none⟩) ns.length cap'] 26)).alloc (.cells #[.slice none 0 0, .slice none 0 0] 26)) = W0) := hW0
  have HCELL : Hid (∀ V, Below W0.heap.size W0 V → V.cell? ⟨w.heap.size, 0, none⟩ = some (.slice (some ⟨b, off, none⟩) ks.length cap) ∧ V.cell? ⟨w.heap.size, 1, none⟩ = some (.slice (some ⟨b', off', none⟩) ns.length cap')) := fun V hV => by
    have e0 : V.heap[w.heap.size]? = _ := (hV.block _ (by omega)).trans B0.out
    exact ⟨by rw [cell_of_row _ _ 0 _ _ _ e0]; rfl, by rw [cell_of_row _ _ 1 _ _ _ e0]; rfl⟩
  have HFIN : Hid (∀ V, Below W0.heap.size W0 V → (V.cell? ⟨w.heap.size + 1, 0, none⟩ = some (.slice none 0 0) ∧ V.cell? ⟨w.heap.size + 1, 1, none⟩ = some (.slice none 0 0)) ∧ ∀ i, V.frozen? ⟨w.heap.size + 1, i, none⟩ = false) := fun V hV => by
    have e0 : V.heap[w.heap.size + 1]? = _ := (hV.block _ hz0).trans R0.out
    exact ⟨⟨by rw [cell_of_row _ _ 0 _ _ _ e0]; rfl, by rw [cell_of_row _ _ 1 _ _ _ e0]; rfl⟩, fun i => frozen_of_row _ _ i _ _ e0⟩
  obtain ⟨s0, s1⟩ := HCELL.out W0 (Below.refl _ _)
  clear hW0 hbl hbl'
  go_enter Tryd.func25, Tryd.ntmps25
  go_wp2_with fail
  try rw [HW0.out]
  refine wp_region_held_drew (S := (fun w' => w'.cell? ⟨w.heap.size, 0, none⟩ = some (.slice (some ⟨b, off, none⟩) ks.length cap) ∧ w'.cell? ⟨w.heap.size, 1, none⟩ = some (.slice (some ⟨b', off', none⟩) ns.length cap'))) (by kernel_rfl) ?_ (fun hHeld => ?_)
  · exact ⟨s0, s1⟩
  refine wpAnyH_takeD (i := 1) (d := 4) (v := .pointer (some ⟨w.heap.size, 0, none⟩)) rfl (by kernel_rfl) (by kernel_rfl) (by kernel_rfl) (fun _ _ _ h => h) (Or.inl ⟨by rfl, by intro w hSw; (try dsimp only at hSw); go_simp⟩) (by assumption) rfl ?_
  simp only [Act.put, List.setIfInBounds_toArray, List.set_cons_zero, List.set_cons_succ]
  refine wpAnyH_takeD (i := 2) (d := 5) (v := .slice (some ⟨b, off, none⟩) ks.length cap) rfl (by kernel_rfl) (by kernel_rfl) (by kernel_rfl) (fun _ _ _ h => h) (Or.inl ⟨by rfl, by intro w hSw; (try dsimp only at hSw); go_simp⟩) (by assumption) rfl ?_
  simp only [Act.put, List.setIfInBounds_toArray, List.set_cons_zero, List.set_cons_succ]
  refine wpAnyH_takeD (i := 5) (d := 8) (v := .pointer (some ⟨w.heap.size, 1, none⟩)) rfl (by kernel_rfl) (by kernel_rfl) (by kernel_rfl) (fun _ _ _ h => h) (Or.inl ⟨by rfl, by intro w hSw; (try dsimp only at hSw); go_simp⟩) (by assumption) rfl ?_
  simp only [Act.put, List.setIfInBounds_toArray, List.set_cons_zero, List.set_cons_succ]
  refine wpAnyH_takeD (i := 6) (d := 9) (v := .slice (some ⟨b', off', none⟩) ns.length cap') rfl (by kernel_rfl) (by kernel_rfl) (by kernel_rfl) (fun _ _ _ h => h) (Or.inl ⟨by rfl, by intro w hSw; (try dsimp only at hSw); go_simp⟩) (by assumption) rfl ?_
  simp only [Act.put, List.setIfInBounds_toArray, List.set_cons_zero, List.set_cons_succ]
  obtain ⟨w0, hw0⟩ : ∃ x, World.drew W0 = x := ⟨_, rfl⟩
  have X0 : Hid (Below W0.heap.size W0 w0) := by rw [← hw0]; exact (Below.refl _ _).drew
  rw [hw0]
  clear hw0 s0 s1
  refine wpAnyH_ready (rs := [0, 4]) (by kernel_rfl) (by simp) ?_
  refine AllReadyH.cons rfl (fun K hK => ?_) (AllReadyH.cons rfl (fun K hK => ?_) AllReadyH.nil)
  · skip
    go_simp
    obtain ⟨v1, hv1⟩ : ∃ x, w0.alloc (.cells #[] 9) = x := ⟨_, rfl⟩
    have Xv1 : Hid (Below W0.heap.size W0 v1) := by show Below _ _ _; rw [← hv1]; exact X0.out.alloc X0.out.size _
    have ESv1 : Hid (v1.ownsRow W0.heap.size 9 1 (.slice (some ⟨w0.heap.size, 0, none⟩) 0 0) 0 []) := by show World.ownsRow _ _ _ _ _ _ _; rw [← hv1]; exact own_of_block (heap_alloc_last w0 _) X0.out.size
    have hdv1 : Below w0.heap.size w0 v1 := by rw [← hv1]; exact (Below.refl _ _).alloc (Nat.le_refl _) _
    rw [hv1]
    clear hv1 hdv1
    refine hK.out _ _ ?_ (fun hHeld => ?_)
    · exact HCELL.out v1 Xv1.out
    clear hK K
    try simp only [Act.put, List.setIfInBounds_toArray, List.set_cons_zero, List.set_cons_succ]
    refine wpAnyH_ready (rs := [3, 4]) (by kernel_rfl) (by simp) ?_
    refine AllReadyH.cons rfl (fun K hK => ?_) (AllReadyH.cons rfl (fun K hK => ?_) AllReadyH.nil)
    · skip
      have HB9 : Below w.heap.size w v1 := L0.out.trans (Xv1.out.mono L0.out.size)
      refine step_append_ownd rfl (.tmp 3) (.tmp 5) 23 rfl W0.heap.size 9 i3 (.string ⟨#[]⟩) 1 16 Tryd.underlying23 hi3 hz3 hs3 hb3 rfl (by decide) (.slice (some ⟨w0.heap.size, 0, none⟩) 0 0) 0 [] rfl ESv1.out ⟨b, off, none⟩ ks.length cap (texts ks) rfl (by simp [texts]) (news_texts (HA.out.below HB9)) (texts_one405 ks) (by unfold maxLen; omega) (by omega) Xv1.out.size (d := 6) rfl ?_
      intro u2 v2 hown hgrow hnil
      rw [Nat.zero_add, List.nil_append] at hown
      have Xv2 : Hid (Below W0.heap.size W0 v2) := Xv1.out.trans (below_of_grown hgrow (fun z hz => (World.ownsRow.lt (ESv1.out) z hz).1) Xv1.out.size)
      have OSv2 : Hid (v2.ownsRow W0.heap.size 9 1 u2 ks.length (texts ks)) := hown
      clear hown hgrow hnil HB9
      refine hK.out _ _ ?_ (fun hHeld => ?_)
      · exact HCELL.out v2 Xv2.out
      clear hK K
      try simp only [Act.put, List.setIfInBounds_toArray, List.set_cons_zero, List.set_cons_succ]
      refine wpAnyH_ready (rs := [4]) (by kernel_rfl) (by simp) ?_
      refine AllReadyH.cons rfl (fun K hK => ?_) AllReadyH.nil
      go_simp
      obtain ⟨v3, hv3⟩ : ∃ x, v2.alloc (.cells #[] 3) = x := ⟨_, rfl⟩
      have Xv3 : Hid (Below W0.heap.size W0 v3) := by show Below _ _ _; rw [← hv3]; exact Xv2.out.alloc Xv2.out.size _
      have EIv3 : Hid (v3.ownsRow W0.heap.size 3 1 (.slice (some ⟨v2.heap.size, 0, none⟩) 0 0) 0 []) := by show World.ownsRow _ _ _ _ _ _ _; rw [← hv3]; exact own_of_block (heap_alloc_last v2 _) Xv2.out.size
      have hdv3 : Below v2.heap.size v2 v3 := by rw [← hv3]; exact (Below.refl _ _).alloc (Nat.le_refl _) _
      have OSv3 := OSv2.out.kept441 hdv3
      rw [hv3]
      clear hv3 hdv3
      refine hK.out _ _ ?_ (fun hHeld => ?_)
      · exact HCELL.out v3 Xv3.out
      clear hK K
      try simp only [Act.put, List.setIfInBounds_toArray, List.set_cons_zero, List.set_cons_succ]
      refine wpAnyH_ready (rs := [7]) (by kernel_rfl) (by simp) ?_
      refine AllReadyH.cons rfl (fun K hK => ?_) AllReadyH.nil
      have HB9 : Below w.heap.size w v3 := L0.out.trans (Xv3.out.mono L0.out.size)
      refine step_append_ownd rfl (.tmp 7) (.tmp 9) 24 rfl W0.heap.size 3 i4 (.int .i64 0) 1 8 Tryd.underlying24 hi4 hz4 hs4 hb4 rfl (by decide) (.slice (some ⟨v2.heap.size, 0, none⟩) 0 0) 0 [] rfl EIv3.out ⟨b', off', none⟩ ns.length cap' (intsV ns) rfl (by simp [intsV]) (news_ints (HN.out.below HB9)) (intsV_one ns) (by unfold maxLen; omega) (by omega) Xv3.out.size (d := 10) rfl ?_
      intro u4 v4 hown hgrow hnil
      rw [Nat.zero_add, List.nil_append] at hown
      have Xv4 : Hid (Below W0.heap.size W0 v4) := Xv3.out.trans (below_of_grown hgrow (fun z hz => (World.ownsRow.lt (EIv3.out) z hz).1) Xv3.out.size)
      have OIv4 : Hid (v4.ownsRow W0.heap.size 3 1 u4 ns.length (intsV ns)) := hown
      have OSv4 : Hid _ := owns_grown OSv3.out EIv3.out (by decide) hgrow
      clear hown hgrow hnil HB9
      refine hK.out _ _ ?_ (fun hHeld => ?_)
      · exact HCELL.out v4 Xv4.out
      clear hK K
      try simp only [Act.put, List.setIfInBounds_toArray, List.set_cons_zero, List.set_cons_succ]
      obtain ⟨g1, n1, c1, rfl⟩ : ∃ g n c, u2 = .slice g n c := by rcases OSv4.out.2 with ⟨hv, _⟩ | ⟨g, c, cur, hv, _⟩ <;> exact ⟨_, _, _, hv⟩
      obtain ⟨g2, n2, c2, rfl⟩ : ∃ g n c, u4 = .slice g n c := by rcases OIv4.out.2 with ⟨hv, _⟩ | ⟨g, c, cur, hv, _⟩ <;> exact ⟨_, _, _, hv⟩
      refine wpAnyH_takeD (i := 8) (d := 11) (v := .agg #[.slice g1 n1 c1, .slice g2 n2 c2]) rfl (by kernel_rfl) (by kernel_rfl) (by kernel_rfl) (fun _ _ _ h => h) (Or.inl ⟨by rfl, by intro w hSw; (try dsimp only at hSw); go_simp⟩) (by assumption) rfl ?_
      simp only [Act.put, List.setIfInBounds_toArray, List.set_cons_zero, List.set_cons_succ]
      obtain ⟨⟨k0, k1⟩, kf⟩ := HFIN.out v4 Xv4.out
      have kf0 := kf 0
      have kf1 := kf 1
      clear kf
      refine wpAnyH_ready (rs := [9]) (by kernel_rfl) (by simp) ?_
      refine AllReadyH.cons rfl (fun K hK => ?_) AllReadyH.nil
      go_simp
      refine hK.out _ _ ?_ (fun hHeld => ?_)
      · obtain ⟨p0, p1⟩ := HCELL.out v4 Xv4.out
        exact ⟨((cell_set431 _ _ _ (by omega)).trans (cell_set431 _ _ _ (by omega))).trans p0, ((cell_set431 _ _ _ (by omega)).trans (cell_set431 _ _ _ (by omega))).trans p1⟩
      clear hK K
      try simp only [Act.put, List.setIfInBounds_toArray, List.set_cons_zero, List.set_cons_succ]
      refine wpAnyH_done (by kernel_rfl) ?_ _
      go_wp2
      refine bodyPost_ret (v := .agg #[.slice g1 n1 c1, .slice g2 n2 c2]) (by simp [results, Tryd.results25, go_sem, k0, k1, World.cell?_setCell_same', World.cell?_setCell_other]) rfl ⟨g1, n1, c1, g2, n2, c2, rfl, ?_, ?_, ?_⟩
      · exact owns_lower (owns_low476 (owns_low476 OSv4.out hz0 _ _) hz0 _ _) L0.out.size
      · exact owns_lower (owns_low476 (owns_low476 OIv4.out hz0 _ _) hz0 _ _) L0.out.size
      · exact ((L0.out.trans (Xv4.out.mono L0.out.size)).setCell (Nat.le_succ _) _).setCell (Nat.le_succ _) _
    · skip
      go_simp
      obtain ⟨v5, hv5⟩ : ∃ x, v1.alloc (.cells #[] 3) = x := ⟨_, rfl⟩
      have Xv5 : Hid (Below W0.heap.size W0 v5) := by show Below _ _ _; rw [← hv5]; exact Xv1.out.alloc Xv1.out.size _
      have EIv5 : Hid (v5.ownsRow W0.heap.size 3 1 (.slice (some ⟨v1.heap.size, 0, none⟩) 0 0) 0 []) := by show World.ownsRow _ _ _ _ _ _ _; rw [← hv5]; exact own_of_block (heap_alloc_last v1 _) Xv1.out.size
      have hdv5 : Below v1.heap.size v1 v5 := by rw [← hv5]; exact (Below.refl _ _).alloc (Nat.le_refl _) _
      have ESv5 := ESv1.out.kept441 hdv5
      rw [hv5]
      clear hv5 hdv5
      refine hK.out _ _ ?_ (fun hHeld => ?_)
      · exact HCELL.out v5 Xv5.out
      clear hK K
      try simp only [Act.put, List.setIfInBounds_toArray, List.set_cons_zero, List.set_cons_succ]
      refine wpAnyH_ready (rs := [3]) (by kernel_rfl) (by simp) ?_
      refine AllReadyH.cons rfl (fun K hK => ?_) AllReadyH.nil
      have HB9 : Below w.heap.size w v5 := L0.out.trans (Xv5.out.mono L0.out.size)
      refine step_append_ownd rfl (.tmp 3) (.tmp 5) 23 rfl W0.heap.size 9 i3 (.string ⟨#[]⟩) 1 16 Tryd.underlying23 hi3 hz3 hs3 hb3 rfl (by decide) (.slice (some ⟨w0.heap.size, 0, none⟩) 0 0) 0 [] rfl ESv5.out ⟨b, off, none⟩ ks.length cap (texts ks) rfl (by simp [texts]) (news_texts (HA.out.below HB9)) (texts_one405 ks) (by unfold maxLen; omega) (by omega) Xv5.out.size (d := 6) rfl ?_
      intro u6 v6 hown hgrow hnil
      rw [Nat.zero_add, List.nil_append] at hown
      have Xv6 : Hid (Below W0.heap.size W0 v6) := Xv5.out.trans (below_of_grown hgrow (fun z hz => (World.ownsRow.lt (ESv5.out) z hz).1) Xv5.out.size)
      have OSv6 : Hid (v6.ownsRow W0.heap.size 9 1 u6 ks.length (texts ks)) := hown
      have EIv6 : Hid _ := owns_grown EIv5.out ESv5.out (by decide) hgrow
      clear hown hgrow hnil HB9
      refine hK.out _ _ ?_ (fun hHeld => ?_)
      · exact HCELL.out v6 Xv6.out
      clear hK K
      try simp only [Act.put, List.setIfInBounds_toArray, List.set_cons_zero, List.set_cons_succ]
      refine wpAnyH_ready (rs := [7]) (by kernel_rfl) (by simp) ?_
      refine AllReadyH.cons rfl (fun K hK => ?_) AllReadyH.nil
      have HB9 : Below w.heap.size w v6 := L0.out.trans (Xv6.out.mono L0.out.size)
      refine step_append_ownd rfl (.tmp 7) (.tmp 9) 24 rfl W0.heap.size 3 i4 (.int .i64 0) 1 8 Tryd.underlying24 hi4 hz4 hs4 hb4 rfl (by decide) (.slice (some ⟨v1.heap.size, 0, none⟩) 0 0) 0 [] rfl EIv6.out ⟨b', off', none⟩ ns.length cap' (intsV ns) rfl (by simp [intsV]) (news_ints (HN.out.below HB9)) (intsV_one ns) (by unfold maxLen; omega) (by omega) Xv6.out.size (d := 10) rfl ?_
      intro u7 v7 hown hgrow hnil
      rw [Nat.zero_add, List.nil_append] at hown
      have Xv7 : Hid (Below W0.heap.size W0 v7) := Xv6.out.trans (below_of_grown hgrow (fun z hz => (World.ownsRow.lt (EIv6.out) z hz).1) Xv6.out.size)
      have OIv7 : Hid (v7.ownsRow W0.heap.size 3 1 u7 ns.length (intsV ns)) := hown
      have OSv7 : Hid _ := owns_grown OSv6.out EIv6.out (by decide) hgrow
      clear hown hgrow hnil HB9
      refine hK.out _ _ ?_ (fun hHeld => ?_)
      · exact HCELL.out v7 Xv7.out
      clear hK K
      try simp only [Act.put, List.setIfInBounds_toArray, List.set_cons_zero, List.set_cons_succ]
      obtain ⟨g1, n1, c1, rfl⟩ : ∃ g n c, u6 = .slice g n c := by rcases OSv7.out.2 with ⟨hv, _⟩ | ⟨g, c, cur, hv, _⟩ <;> exact ⟨_, _, _, hv⟩
      obtain ⟨g2, n2, c2, rfl⟩ : ∃ g n c, u7 = .slice g n c := by rcases OIv7.out.2 with ⟨hv, _⟩ | ⟨g, c, cur, hv, _⟩ <;> exact ⟨_, _, _, hv⟩
      refine wpAnyH_takeD (i := 8) (d := 11) (v := .agg #[.slice g1 n1 c1, .slice g2 n2 c2]) rfl (by kernel_rfl) (by kernel_rfl) (by kernel_rfl) (fun _ _ _ h => h) (Or.inl ⟨by rfl, by intro w hSw; (try dsimp only at hSw); go_simp⟩) (by assumption) rfl ?_
      simp only [Act.put, List.setIfInBounds_toArray, List.set_cons_zero, List.set_cons_succ]
      obtain ⟨⟨k0, k1⟩, kf⟩ := HFIN.out v7 Xv7.out
      have kf0 := kf 0
      have kf1 := kf 1
      clear kf
      refine wpAnyH_ready (rs := [9]) (by kernel_rfl) (by simp) ?_
      refine AllReadyH.cons rfl (fun K hK => ?_) AllReadyH.nil
      go_simp
      refine hK.out _ _ ?_ (fun hHeld => ?_)
      · obtain ⟨p0, p1⟩ := HCELL.out v7 Xv7.out
        exact ⟨((cell_set431 _ _ _ (by omega)).trans (cell_set431 _ _ _ (by omega))).trans p0, ((cell_set431 _ _ _ (by omega)).trans (cell_set431 _ _ _ (by omega))).trans p1⟩
      clear hK K
      try simp only [Act.put, List.setIfInBounds_toArray, List.set_cons_zero, List.set_cons_succ]
      refine wpAnyH_done (by kernel_rfl) ?_ _
      go_wp2
      refine bodyPost_ret (v := .agg #[.slice g1 n1 c1, .slice g2 n2 c2]) (by simp [results, Tryd.results25, go_sem, k0, k1, World.cell?_setCell_same', World.cell?_setCell_other]) rfl ⟨g1, n1, c1, g2, n2, c2, rfl, ?_, ?_, ?_⟩
      · exact owns_lower (owns_low476 (owns_low476 OSv7.out hz0 _ _) hz0 _ _) L0.out.size
      · exact owns_lower (owns_low476 (owns_low476 OIv7.out hz0 _ _) hz0 _ _) L0.out.size
      · exact ((L0.out.trans (Xv7.out.mono L0.out.size)).setCell (Nat.le_succ _) _).setCell (Nat.le_succ _) _
  · skip
    go_simp
    obtain ⟨v8, hv8⟩ : ∃ x, w0.alloc (.cells #[] 3) = x := ⟨_, rfl⟩
    have Xv8 : Hid (Below W0.heap.size W0 v8) := by show Below _ _ _; rw [← hv8]; exact X0.out.alloc X0.out.size _
    have EIv8 : Hid (v8.ownsRow W0.heap.size 3 1 (.slice (some ⟨w0.heap.size, 0, none⟩) 0 0) 0 []) := by show World.ownsRow _ _ _ _ _ _ _; rw [← hv8]; exact own_of_block (heap_alloc_last w0 _) X0.out.size
    have hdv8 : Below w0.heap.size w0 v8 := by rw [← hv8]; exact (Below.refl _ _).alloc (Nat.le_refl _) _
    rw [hv8]
    clear hv8 hdv8
    refine hK.out _ _ ?_ (fun hHeld => ?_)
    · exact HCELL.out v8 Xv8.out
    clear hK K
    try simp only [Act.put, List.setIfInBounds_toArray, List.set_cons_zero, List.set_cons_succ]
    refine wpAnyH_ready (rs := [0]) (by kernel_rfl) (by simp) ?_
    refine AllReadyH.cons rfl (fun K hK => ?_) AllReadyH.nil
    go_simp
    obtain ⟨v9, hv9⟩ : ∃ x, v8.alloc (.cells #[] 9) = x := ⟨_, rfl⟩
    have Xv9 : Hid (Below W0.heap.size W0 v9) := by show Below _ _ _; rw [← hv9]; exact Xv8.out.alloc Xv8.out.size _
    have ESv9 : Hid (v9.ownsRow W0.heap.size 9 1 (.slice (some ⟨v8.heap.size, 0, none⟩) 0 0) 0 []) := by show World.ownsRow _ _ _ _ _ _ _; rw [← hv9]; exact own_of_block (heap_alloc_last v8 _) Xv8.out.size
    have hdv9 : Below v8.heap.size v8 v9 := by rw [← hv9]; exact (Below.refl _ _).alloc (Nat.le_refl _) _
    have EIv9 := EIv8.out.kept441 hdv9
    rw [hv9]
    clear hv9 hdv9
    refine hK.out _ _ ?_ (fun hHeld => ?_)
    · exact HCELL.out v9 Xv9.out
    clear hK K
    try simp only [Act.put, List.setIfInBounds_toArray, List.set_cons_zero, List.set_cons_succ]
    refine wpAnyH_ready (rs := [3]) (by kernel_rfl) (by simp) ?_
    refine AllReadyH.cons rfl (fun K hK => ?_) AllReadyH.nil
    have HB9 : Below w.heap.size w v9 := L0.out.trans (Xv9.out.mono L0.out.size)
    refine step_append_ownd rfl (.tmp 3) (.tmp 5) 23 rfl W0.heap.size 9 i3 (.string ⟨#[]⟩) 1 16 Tryd.underlying23 hi3 hz3 hs3 hb3 rfl (by decide) (.slice (some ⟨v8.heap.size, 0, none⟩) 0 0) 0 [] rfl ESv9.out ⟨b, off, none⟩ ks.length cap (texts ks) rfl (by simp [texts]) (news_texts (HA.out.below HB9)) (texts_one405 ks) (by unfold maxLen; omega) (by omega) Xv9.out.size (d := 6) rfl ?_
    intro u10 v10 hown hgrow hnil
    rw [Nat.zero_add, List.nil_append] at hown
    have Xv10 : Hid (Below W0.heap.size W0 v10) := Xv9.out.trans (below_of_grown hgrow (fun z hz => (World.ownsRow.lt (ESv9.out) z hz).1) Xv9.out.size)
    have OSv10 : Hid (v10.ownsRow W0.heap.size 9 1 u10 ks.length (texts ks)) := hown
    have EIv10 : Hid _ := owns_grown EIv9.out ESv9.out (by decide) hgrow
    clear hown hgrow hnil HB9
    refine hK.out _ _ ?_ (fun hHeld => ?_)
    · exact HCELL.out v10 Xv10.out
    clear hK K
    try simp only [Act.put, List.setIfInBounds_toArray, List.set_cons_zero, List.set_cons_succ]
    refine wpAnyH_ready (rs := [7]) (by kernel_rfl) (by simp) ?_
    refine AllReadyH.cons rfl (fun K hK => ?_) AllReadyH.nil
    have HB9 : Below w.heap.size w v10 := L0.out.trans (Xv10.out.mono L0.out.size)
    refine step_append_ownd rfl (.tmp 7) (.tmp 9) 24 rfl W0.heap.size 3 i4 (.int .i64 0) 1 8 Tryd.underlying24 hi4 hz4 hs4 hb4 rfl (by decide) (.slice (some ⟨w0.heap.size, 0, none⟩) 0 0) 0 [] rfl EIv10.out ⟨b', off', none⟩ ns.length cap' (intsV ns) rfl (by simp [intsV]) (news_ints (HN.out.below HB9)) (intsV_one ns) (by unfold maxLen; omega) (by omega) Xv10.out.size (d := 10) rfl ?_
    intro u11 v11 hown hgrow hnil
    rw [Nat.zero_add, List.nil_append] at hown
    have Xv11 : Hid (Below W0.heap.size W0 v11) := Xv10.out.trans (below_of_grown hgrow (fun z hz => (World.ownsRow.lt (EIv10.out) z hz).1) Xv10.out.size)
    have OIv11 : Hid (v11.ownsRow W0.heap.size 3 1 u11 ns.length (intsV ns)) := hown
    have OSv11 : Hid _ := owns_grown OSv10.out EIv10.out (by decide) hgrow
    clear hown hgrow hnil HB9
    refine hK.out _ _ ?_ (fun hHeld => ?_)
    · exact HCELL.out v11 Xv11.out
    clear hK K
    try simp only [Act.put, List.setIfInBounds_toArray, List.set_cons_zero, List.set_cons_succ]
    obtain ⟨g1, n1, c1, rfl⟩ : ∃ g n c, u10 = .slice g n c := by rcases OSv11.out.2 with ⟨hv, _⟩ | ⟨g, c, cur, hv, _⟩ <;> exact ⟨_, _, _, hv⟩
    obtain ⟨g2, n2, c2, rfl⟩ : ∃ g n c, u11 = .slice g n c := by rcases OIv11.out.2 with ⟨hv, _⟩ | ⟨g, c, cur, hv, _⟩ <;> exact ⟨_, _, _, hv⟩
    refine wpAnyH_takeD (i := 8) (d := 11) (v := .agg #[.slice g1 n1 c1, .slice g2 n2 c2]) rfl (by kernel_rfl) (by kernel_rfl) (by kernel_rfl) (fun _ _ _ h => h) (Or.inl ⟨by rfl, by intro w hSw; (try dsimp only at hSw); go_simp⟩) (by assumption) rfl ?_
    simp only [Act.put, List.setIfInBounds_toArray, List.set_cons_zero, List.set_cons_succ]
    obtain ⟨⟨k0, k1⟩, kf⟩ := HFIN.out v11 Xv11.out
    have kf0 := kf 0
    have kf1 := kf 1
    clear kf
    refine wpAnyH_ready (rs := [9]) (by kernel_rfl) (by simp) ?_
    refine AllReadyH.cons rfl (fun K hK => ?_) AllReadyH.nil
    go_simp
    refine hK.out _ _ ?_ (fun hHeld => ?_)
    · obtain ⟨p0, p1⟩ := HCELL.out v11 Xv11.out
      exact ⟨((cell_set431 _ _ _ (by omega)).trans (cell_set431 _ _ _ (by omega))).trans p0, ((cell_set431 _ _ _ (by omega)).trans (cell_set431 _ _ _ (by omega))).trans p1⟩
    clear hK K
    try simp only [Act.put, List.setIfInBounds_toArray, List.set_cons_zero, List.set_cons_succ]
    refine wpAnyH_done (by kernel_rfl) ?_ _
    go_wp2
    refine bodyPost_ret (v := .agg #[.slice g1 n1 c1, .slice g2 n2 c2]) (by simp [results, Tryd.results25, go_sem, k0, k1, World.cell?_setCell_same', World.cell?_setCell_other]) rfl ⟨g1, n1, c1, g2, n2, c2, rfl, ?_, ?_, ?_⟩
    · exact owns_lower (owns_low476 (owns_low476 OSv11.out hz0 _ _) hz0 _ _) L0.out.size
    · exact owns_lower (owns_low476 (owns_low476 OIv11.out hz0 _ _) hz0 _ _) L0.out.size
    · exact ((L0.out.trans (Xv11.out.mono L0.out.size)).setCell (Nat.le_succ _) _).setCell (Nat.le_succ _) _
end Go.Proofs.YtdjpeickokoclaaDoor
/-
  A turn made: spec.TurnOf.
-/
namespace Go.Proofs.YtdjpeickokoclaaDoor
open Go.RowKit
set_option linter.unusedVariables false
theorem owns_cell478 {w : World} {lo b : Nat} {e : TypeId} {s n : Nat} {v : Value} {xs : List Value} (h : w.ownsRow lo e s v n xs) (hb : ∀ g, v.ownBlock = some g → g ≠ b) (o : Nat) (u : Value) : (w.setCell ⟨b, o, none⟩ u).ownsRow lo e s v n xs := by
  refine ⟨h.1, ?_⟩
  rcases h.2 with h0 | ⟨g, cap, cur, hv, hlo, hg, r⟩
  · exact .inl h0
  · refine .inr ⟨g, cap, cur, hv, hlo, ?_, r⟩
    rw [Below.heap_setCell _ _ _ _ (by show g ≠ b; exact hb g (by rw [hv]; rfl))]
    exact hg
theorem owns_ne478 {w : World} {lo b : Nat} {e t : TypeId} {s n : Nat} {v : Value} {xs : List Value} {c : Array Value} {fr : Nat × Nat} (h : w.ownsRow lo e s v n xs) (hx : w.heap[b]? = some (.cells c t fr)) (hne : e ≠ t) : ∀ g, v.ownBlock = some g → g ≠ b := by
  intro g hg hgb
  subst hgb
  rcases h.2 with ⟨hv, _⟩ | ⟨g', cap, cur, hv, _, hh, _⟩
  · rw [hv] at hg
    cases hg
  · rw [hv] at hg
    cases hg
    rw [hx] at hh
    cases hh
    exact hne rfl
theorem texts_long (ks : List ByteArray) (key : ByteArray) : texts ks ++ [.string key] = texts (ks ++ [key]) := by simp [texts]
theorem ints_long (ns : List Int) (fr : Int) : intsV ns ++ [.int .i64 fr] = intsV (ns ++ [fr]) := by simp [intsV]
theorem info_turn478 : (Tryd.prog.info? 28).map (·.size) = some 3 := by kernel_rfl
theorem info_ring478 : (Tryd.prog.info? 26).map (·.size) = some 2 := by kernel_rfl
set_option maxRecDepth 100000 in
set_option maxHeartbeats 8000000 in
theorem specTurnOf_any (w : World) (v : Value) (x : RingM) (key : ByteArray) (fr : Int) (h : RingAt w v x) (hk : key.size ≤ maxLen) :
    Calls Tryd.prog 15 #[v, .string key, .int .i64 fr] w fun e w' => e = .returned (.tuple #[turnV (tofT x key fr), .bool (tofB x key fr)]) ∧ Below w.heap.size w w' := by
  obtain ⟨a, l, cap, a', l', cap', rfl⟩ := h.form2
  have HR : Hid (RingAt w (.agg #[.slice a l cap, .slice a' l' cap']) x) := h
  have HK : Hid (key.size ≤ maxLen) := hk
  have HS3 : Hid ((Tryd.prog.info? 28).map (·.size) = some 3) := info_turn478
  have HS2 : Hid ((Tryd.prog.info? 26).map (·.size) = some 2) := info_ring478
  obtain ⟨i3, hi3, hz3, hs3, hb3⟩ := info_parts Tryd.info_str405
  obtain ⟨i4, hi4, hz4, hs4, hb4⟩ := info_parts Tryd.info_int405
  obtain ⟨W, hW⟩ : ∃ W, (w.alloc (.cells #[.slice a l cap, .slice a' l' cap'] 26)).alloc (.cells #[.string ⟨#[]⟩, .int .i64 0, .string ⟨#[]⟩] 28) = W := ⟨_, rfl⟩
  have N0 : W.heap[w.heap.size]? = some (.cells #[.slice a l cap, .slice a' l' cap'] 26 (0, 0)) := by rw [← hW]; exact heap_alloc2_old _ _ _
  have N1 : W.heap[w.heap.size + 1]? = some (.cells #[.string ⟨#[]⟩, .int .i64 0, .string ⟨#[]⟩] 28 (0, 0)) := by rw [← hW]; exact heap_alloc2_new _ _ _
  have HB0 : Hid (Below w.heap.size w W) := by show Below _ _ _; rw [← hW]; exact ((Below.refl _ _).alloc (Nat.le_refl _) _).alloc (by simp <;> omega) _
  have hz1 : w.heap.size + 1 < W.heap.size := (Array.getElem?_eq_some_iff.1 N1).1
  have HW : Hid ((w.alloc (.cells #[.slice a l cap, .slice a' l' cap'] 26)).alloc (.cells #[.string ⟨#[]⟩, .int .i64 0, .string ⟨#[]⟩] 28) = W) := hW
  have HC : Hid (∀ (w : World) (v : Value) (x : RingM), RingAt w v x → Calls Tryd.prog 9 #[v] w fun e w' => e = .returned (.bool (ringOk x)) ∧ Below w.heap.size w w') := fun w v x h => specRingOk_any w v x h
  have HCELL : Hid (∀ (V : World), Below W.heap.size W V → (V.cell? ⟨w.heap.size, 0, none⟩ = some (.slice a l cap) ∧ V.cell? ⟨w.heap.size, 1, none⟩ = some (.slice a' l' cap')) ∧ (V.cell? ⟨w.heap.size + 1, 0, none⟩ = some (.string ⟨#[]⟩) ∧ V.cell? ⟨w.heap.size + 1, 1, none⟩ = some (.int .i64 0) ∧ V.cell? ⟨w.heap.size + 1, 2, none⟩ = some (.string ⟨#[]⟩)) ∧ ∀ i, V.frozen? ⟨w.heap.size + 1, i, none⟩ = false) := fun V hV => by
    have e0 : V.heap[w.heap.size]? = _ := (hV.block _ (by omega)).trans N0
    have e1 : V.heap[w.heap.size + 1]? = _ := (hV.block _ hz1).trans N1
    exact ⟨⟨by rw [cell_of_row _ _ 0 _ _ _ e0]; rfl, by rw [cell_of_row _ _ 1 _ _ _ e0]; rfl⟩, ⟨by rw [cell_of_row _ _ 0 _ _ _ e1]; rfl, by rw [cell_of_row _ _ 1 _ _ _ e1]; rfl, by rw [cell_of_row _ _ 2 _ _ _ e1]; rfl⟩, fun i => frozen_of_row _ _ i _ _ e1⟩
  obtain ⟨⟨s0, s1⟩, -, -⟩ := HCELL.out W (Below.refl _ _)
  clear h hk hW N0 N1
  cases hok : ringOk x with
  | false =>
    have HMM : Hid (tofB x key fr = false ∧ tofT x key fr = (⟨#[]⟩, 0, ⟨#[]⟩)) := tof_no1 key fr hok
    go_enter Tryd.func15, Tryd.ntmps15
    go_wp2_with fail
    try rw [HW.out]
    refine (HC.out _ _ x (HR.out.below HB0.out)).mono ?_
    rintro e w1 ⟨rfl, hb1⟩
    rw [hok]
    obtain ⟨-, ⟨d0, d1, d2⟩, fz⟩ := HCELL.out w1 hb1
    have f0 := fz 0
    have f1 := fz 1
    have f2 := fz 2
    have HB1 : Hid (Below w.heap.size w w1) := HB0.out.trans (hb1.mono (by omega))
    clear hb1 fz
    go_wp2
    refine bodyPost_ret (v := .tuple #[.agg #[.string ⟨#[]⟩, .int .i64 0, .string ⟨#[]⟩], .bool false]) (by simp [results, Tryd.results15, go_sem, d0, d1, d2, World.cell?_setCell_same', World.cell?_setCell_other]) rfl ⟨(ret_turn HMM.out.2 HMM.out.1).symm, ?_⟩
    exact ((HB1.out.setCell (Nat.le_succ _) _).setCell (Nat.le_succ _) _).setCell (Nat.le_succ _) _
  | true =>
    have HG : Hid (RingGood x) := ringOk_good hok
    have hl1 : 1 ≤ x.1.length := HG.out.1
    have hl5 : x.1.length ≤ 5 := HG.out.2.1
    have HL6 : Hid (x.2.length = x.1.length) := HG.out.2.2.1
    have hl7 : 1 ≤ x.2.length := by have := HL6.out; omega
    have hl8 : x.2.length ≤ 5 := by have := HL6.out; omega
    go_enter Tryd.func15, Tryd.ntmps15
    go_wp2_with fail
    try rw [HW.out]
    refine (HC.out _ _ x (HR.out.below HB0.out)).mono ?_
    rintro e w1 ⟨rfl, hb1⟩
    rw [hok]
    have X1 : Hid (Below W.heap.size W w1) := hb1
    have HB1 : Hid (Below w.heap.size w w1) := HB0.out.trans (hb1.mono (by omega))
    have NT : Hid ((w1.alloc (.cells #[.string ⟨#[]⟩, .int .i64 0, .string ⟨#[]⟩] 28)).heap[w1.heap.size]? = some (.cells #[.string ⟨#[]⟩, .int .i64 0, .string ⟨#[]⟩] 28 (0, 0))) := heap_alloc_last _ _
    obtain ⟨V1, hV1⟩ : ∃ X, (w1.alloc (.cells #[.string ⟨#[]⟩, .int .i64 0, .string ⟨#[]⟩] 28)).setRow w1.heap.size #[.string key, .int .i64 fr, .string ⟨#[]⟩] = X := ⟨_, rfl⟩
    have NV1 : Hid (V1.heap[w1.heap.size]? = some (.cells #[.string key, .int .i64 fr, .string ⟨#[]⟩] 28 (0, 0))) := by show _ = _; rw [← hV1]; exact setRow_heap _ _ _ _ _ _ NT.out
    have KV1 : Hid (Below w1.heap.size w1 V1) := by show Below _ _ _; rw [← hV1]; exact below_setRow ((Below.refl _ _).alloc (Nat.le_refl _) _) (Nat.le_refl _) _
    have XV1 : Hid (Below W.heap.size W V1) := X1.out.trans (KV1.out.mono X1.out.size)
    have HBV1 : Hid (Below w.heap.size w V1) := HB1.out.trans (KV1.out.mono HB1.out.size)
    have hzT : w1.heap.size < V1.heap.size := (Array.getElem?_eq_some_iff.1 NV1.out).1
    obtain ⟨⟨y0, y1⟩, -, -⟩ := HCELL.out V1 XV1.out
    have HTC : Hid (∀ V, Below V1.heap.size V1 V → V.cell? ⟨w1.heap.size, 0, none⟩ = some (.string key) ∧ V.cell? ⟨w1.heap.size, 1, none⟩ = some (.int .i64 fr) ∧ V.cell? ⟨w1.heap.size, 2, none⟩ = some (.string ⟨#[]⟩) ∧ V.frozen? ⟨w1.heap.size, 2, none⟩ = false) := fun V hV => by
      have e9 : V.heap[w1.heap.size]? = _ := (hV.block _ hzT).trans NV1.out
      exact ⟨by rw [cell_of_row _ _ 0 _ _ _ e9]; rfl, by rw [cell_of_row _ _ 1 _ _ _ e9]; rfl, by rw [cell_of_row _ _ 2 _ _ _ e9]; rfl, frozen_of_row _ _ 2 _ _ e9⟩
    clear hb1 s0 s1
    go_wp2_with (refine wpList_store_row rfl 28 _ _ rfl w1.heap.size #[.string key, .int .i64 fr, .string ⟨#[]⟩] rfl rfl 28 _ NT.out HS3.out rfl (by simp [Value.oneCell']) ?_; rw [hV1])
    refine (l11Copy_any _ _ x (HR.out.below HBV1.out) hl1 (by omega) (by omega) (by omega)).mono ?_
    rintro e w2 ⟨g1, n1, c1, g2, n2, c2, rfl, ho1, ho2, hb2⟩
    have O1 : Hid (w2.ownsRow V1.heap.size 9 1 (.slice g1 n1 c1) x.1.length (texts x.1)) := ho1
    have O2 : Hid (w2.ownsRow V1.heap.size 3 1 (.slice g2 n2 c2) x.2.length (intsV x.2)) := ho2
    have KT2 : Hid (Below V1.heap.size V1 w2) := hb2
    have NX : Hid ((w2.alloc (.cells #[.slice none 0 0, .slice none 0 0] 26)).heap[w2.heap.size]? = some (.cells #[.slice none 0 0, .slice none 0 0] 26 (0, 0))) := heap_alloc_last _ _
    obtain ⟨V2, hV2⟩ : ∃ X, (w2.alloc (.cells #[.slice none 0 0, .slice none 0 0] 26)).setRow w2.heap.size #[.slice g1 n1 c1, .slice g2 n2 c2] = X := ⟨_, rfl⟩
    have NV2 : Hid (V2.heap[w2.heap.size]? = some (.cells #[.slice g1 n1 c1, .slice g2 n2 c2] 26 (0, 0))) := by show _ = _; rw [← hV2]; exact setRow_heap _ _ _ _ _ _ NX.out
    have KV2 : Hid (Below w2.heap.size w2 V2) := by show Below _ _ _; rw [← hV2]; exact below_setRow ((Below.refl _ _).alloc (Nat.le_refl _) _) (Nat.le_refl _) _
    have P1 : Hid (V2.ownsRow V1.heap.size 9 1 (.slice g1 n1 c1) x.1.length (texts x.1)) := owns_below O1.out KV2.out
    have P2 : Hid (V2.ownsRow V1.heap.size 3 1 (.slice g2 n2 c2) x.2.length (intsV x.2)) := owns_below O2.out KV2.out
    have KTV2 : Hid (Below V1.heap.size V1 V2) := KT2.out.trans (KV2.out.mono KT2.out.size)
    have hzX : w2.heap.size < V2.heap.size := (Array.getElem?_eq_some_iff.1 NV2.out).1
    have k0 : V2.cell? ⟨w2.heap.size, 0, none⟩ = some (.slice g1 n1 c1) := by rw [cell_of_row _ _ 0 _ _ _ NV2.out]; rfl
    have hne1 : ∀ g, (Value.slice g1 n1 c1).ownBlock = some g → g ≠ w2.heap.size := fun g hg => Nat.ne_of_lt (World.ownsRow.lt O1.out g hg).2
    have hne2 : ∀ g, (Value.slice g2 n2 c2).ownBlock = some g → g ≠ w2.heap.size := fun g hg => Nat.ne_of_lt (World.ownsRow.lt O2.out g hg).2
    have HN1 : Hid (∀ g, (Value.slice g1 n1 c1).ownBlock = some g → g ≠ w2.heap.size) := hne1
    have HN2 : Hid (∀ g, (Value.slice g2 n2 c2).ownBlock = some g → g ≠ w2.heap.size) := hne2
    have Q1 : Hid ((V2.alloc (.cells #[.string key] 9)).ownsRow V1.heap.size 9 1 (.slice g1 n1 c1) x.1.length (texts x.1)) := owns_below P1.out ((Below.refl _ _).alloc (Nat.le_refl _) _)
    have Q2 : Hid ((V2.alloc (.cells #[.string key] 9)).ownsRow V1.heap.size 3 1 (.slice g2 n2 c2) x.2.length (intsV x.2)) := owns_below P2.out ((Below.refl _ _).alloc (Nat.le_refl _) _)
    have NK : Hid ((V2.alloc (.cells #[.string key] 9)).heap[V2.heap.size]? = some (.cells #[.string key] 9 (0, 0))) := heap_alloc_last _ _
    have NX2 : Hid ((V2.alloc (.cells #[.string key] 9)).heap[w2.heap.size]? = some (.cells #[.slice g1 n1 c1, .slice g2 n2 c2] 26 (0, 0))) := by
      show _ = _
      rw [Below.heap_alloc _ _ _ hzX]
      exact NV2.out
    have KTE : Hid (Below V1.heap.size V1 (V2.alloc (.cells #[.string key] 9))) := KTV2.out.alloc KTV2.out.size _
    clear ho1 ho2 hb2 hne1 hne2 y0 y1
    go_wp2_with (first
      | (refine wpList_store_row rfl 26 _ _ rfl w2.heap.size #[.slice g1 n1 c1, .slice g2 n2 c2] rfl rfl 26 _ NX.out HS2.out rfl (by simp [Value.oneCell']) ?_; rw [hV2])
      | (at_builtin; refine wpList_append_own _ rfl _ _ 23 rfl V1.heap.size 9 i3 (.string ⟨#[]⟩) 1 16 Tryd.underlying23 hi3 hz3 hs3 hb3 rfl (by decide) (.slice g1 n1 c1) x.1.length (texts x.1) rfl Q1.out ⟨V2.heap.size, 0, none⟩ 1 1 [.string key] rfl rfl (news_cells NK.out) (one_text key) (by unfold maxLen; omega) (by omega) KTE.out.size ?_; intro U_3 w3 hown3 hgrow3 hnil3; obtain ⟨G3, C3, rfl, -, -⟩ := World.ownsRow.form hown3 (Nat.succ_pos _); clear k0; have U3 : Hid (w3.ownsRow V1.heap.size 9 1 (.slice (some ⟨G3, 0, none⟩) (x.1.length + 1) C3) (x.1.length + 1) (texts (x.1 ++ [key]))) := (by rw [texts_long] at hown3; exact hown3); have R2 : Hid (w3.ownsRow V1.heap.size 3 1 (.slice g2 n2 c2) x.2.length (intsV x.2)) := owns_grown Q2.out Q1.out (by decide) hgrow3; have KT3 : Hid (Below V1.heap.size V1 w3) := KTE.out.trans (below_of_grown hgrow3 (fun z hz => (World.ownsRow.lt Q1.out z hz).1) KTE.out.size); have NX3 : w3.heap[w2.heap.size]? = some (.cells #[.slice g1 n1 c1, .slice g2 n2 c2] 26 (0, 0)) := (hgrow3.block w2.heap.size (lt_of_block405 NX2.out) (fun e => HN1.out _ e.symm rfl)).trans NX2.out; have q0 : w3.cell? ⟨w2.heap.size, 0, none⟩ = some (.slice g1 n1 c1) := (by rw [cell_of_row _ _ 0 _ _ _ NX3]; rfl); have q1 : w3.cell? ⟨w2.heap.size, 1, none⟩ = some (.slice g2 n2 c2) := (by rw [cell_of_row _ _ 1 _ _ _ NX3]; rfl); have q2 : w3.frozen? ⟨w2.heap.size, 0, none⟩ = false := frozen_of_row _ _ 0 _ _ NX3; have HNX3 : Hid (w3.heap[w2.heap.size]? = some (.cells #[.slice g1 n1 c1, .slice g2 n2 c2] 26 (0, 0))) := NX3; have NK2 : Hid (((w3.setCell ⟨w2.heap.size, 0, none⟩ (.slice (some ⟨G3, 0, none⟩) (x.1.length + 1) C3)).alloc (.cells #[.int .i64 fr] 3)).heap[w3.heap.size]? = some (.cells #[.int .i64 fr] 3 (0, 0))) := (by have h9 := heap_alloc_last (w3.setCell ⟨w2.heap.size, 0, none⟩ (.slice (some ⟨G3, 0, none⟩) (x.1.length + 1) C3)) (.cells #[.int .i64 fr] 3); rw [World.size_setCell] at h9; exact h9); have HU3 : Hid (∀ g, (.slice (some ⟨G3, 0, none⟩) (x.1.length + 1) C3 : Value).ownBlock = some g → g ≠ w2.heap.size) := owns_ne478 U3.out NX3 (by decide); have KS3 : Hid (Below V1.heap.size V1 (w3.setCell ⟨w2.heap.size, 0, none⟩ (.slice (some ⟨G3, 0, none⟩) (x.1.length + 1) C3))) := KT3.out.setCell (p := ⟨w2.heap.size, 0, none⟩) KT2.out.size _; have W3 : Hid (((w3.setCell ⟨w2.heap.size, 0, none⟩ (.slice (some ⟨G3, 0, none⟩) (x.1.length + 1) C3)).alloc (.cells #[.int .i64 fr] 3)).ownsRow V1.heap.size 3 1 (.slice g2 n2 c2) x.2.length (intsV x.2)) := owns_below (owns_cell478 R2.out HN2.out 0 (.slice (some ⟨G3, 0, none⟩) (x.1.length + 1) C3)) ((Below.refl _ _).alloc (Nat.le_refl _) _); have Y3 : Hid (((w3.setCell ⟨w2.heap.size, 0, none⟩ (.slice (some ⟨G3, 0, none⟩) (x.1.length + 1) C3)).alloc (.cells #[.int .i64 fr] 3)).ownsRow V1.heap.size 9 1 (.slice (some ⟨G3, 0, none⟩) (x.1.length + 1) C3) (x.1.length + 1) (texts (x.1 ++ [key]))) := owns_below (owns_cell478 U3.out HU3.out 0 (.slice (some ⟨G3, 0, none⟩) (x.1.length + 1) C3)) ((Below.refl _ _).alloc (Nat.le_refl _) _); have NX4 : Hid (((w3.setCell ⟨w2.heap.size, 0, none⟩ (.slice (some ⟨G3, 0, none⟩) (x.1.length + 1) C3)).alloc (.cells #[.int .i64 fr] 3)).heap[w2.heap.size]? = some (.cells #[(.slice (some ⟨G3, 0, none⟩) (x.1.length + 1) C3), .slice g2 n2 c2] 26 (0, 0))) := (by show _ = _; rw [Below.heap_alloc _ _ _ (by rw [World.size_setCell]; exact lt_of_block405 NX3), heap_setCell_same _ _ 0 _ _ _ NX3]; rfl); clear hown3 hgrow3 hnil3 NX3)
      | (at_builtin; refine wpList_append_own _ rfl _ _ 24 rfl V1.heap.size 3 i4 (.int .i64 0) 1 8 Tryd.underlying24 hi4 hz4 hs4 hb4 rfl (by decide) (.slice g2 n2 c2) x.2.length (intsV x.2) rfl W3.out ⟨w3.heap.size, 0, none⟩ 1 1 [.int .i64 fr] rfl rfl (news_cells NK2.out) (one_int fr) (by unfold maxLen; omega) (by omega) (KS3.out.alloc KS3.out.size _).size ?_; intro U_4 w4 hown4 hgrow4 hnil4; obtain ⟨G4, C4, rfl, -, -⟩ := World.ownsRow.form hown4 (Nat.succ_pos _); clear q0 q1 q2; have U4 : Hid (w4.ownsRow V1.heap.size 3 1 (.slice (some ⟨G4, 0, none⟩) (x.2.length + 1) C4) (x.2.length + 1) (intsV (x.2 ++ [fr]))) := (by rw [ints_long] at hown4; exact hown4); have Y4 : Hid (w4.ownsRow V1.heap.size 9 1 (.slice (some ⟨G3, 0, none⟩) (x.1.length + 1) C3) (x.1.length + 1) (texts (x.1 ++ [key]))) := owns_grown Y3.out W3.out (by decide) hgrow4; have KT4 : Hid (Below V1.heap.size V1 w4) := (KS3.out.alloc KS3.out.size _).trans (below_of_grown hgrow4 (fun z hz => (World.ownsRow.lt W3.out z hz).1) (KS3.out.alloc KS3.out.size _).size); have NX5 : w4.heap[w2.heap.size]? = some (.cells #[(.slice (some ⟨G3, 0, none⟩) (x.1.length + 1) C3), .slice g2 n2 c2] 26 (0, 0)) := (hgrow4.block w2.heap.size (lt_of_block405 NX4.out) (fun e => HN2.out _ e.symm rfl)).trans NX4.out; have p0 : w4.cell? ⟨w2.heap.size, 0, none⟩ = some (.slice (some ⟨G3, 0, none⟩) (x.1.length + 1) C3) := (by rw [cell_of_row _ _ 0 _ _ _ NX5]; rfl); have p1 : w4.cell? ⟨w2.heap.size, 1, none⟩ = some (.slice g2 n2 c2) := (by rw [cell_of_row _ _ 1 _ _ _ NX5]; rfl); have p2 : w4.frozen? ⟨w2.heap.size, 1, none⟩ = false := frozen_of_row _ _ 1 _ _ NX5; have HU4 : Hid (∀ g, (.slice (some ⟨G4, 0, none⟩) (x.2.length + 1) C4 : Value).ownBlock = some g → g ≠ w2.heap.size) := owns_ne478 U4.out NX5 (by decide); have HU5 : Hid (∀ g, (.slice (some ⟨G3, 0, none⟩) (x.1.length + 1) C3 : Value).ownBlock = some g → g ≠ w2.heap.size) := owns_ne478 Y4.out NX5 (by decide); clear hown4 hgrow4 hnil4 NX5))
    have HFIT : ∀ (i : Nat) (z : ByteArray), (x.1 ++ [key])[i]? = some z → z.size ≤ maxLen := fun i z hz => by
      obtain ⟨va9, vn9, hv9, ha9, _⟩ := HR.out
      cases hv9
      rcases Nat.lt_trichotomy i x.1.length with h | h | h
      · rw [List.getElem?_append_left h] at hz; exact ha9.fit i z hz
      · subst h; rw [List.getElem?_append_right (Nat.le_refl _)] at hz; simp at hz; rw [← hz]; exact HK.out
      · rw [List.getElem?_eq_none (by simp; omega)] at hz; cases hz
    have KT5 : Hid (Below V1.heap.size V1 (w4.setCell ⟨w2.heap.size, 1, none⟩ (.slice (some ⟨G4, 0, none⟩) (x.2.length + 1) C4))) := KT4.out.setCell (p := ⟨w2.heap.size, 1, none⟩) KT2.out.size _
    have HRA : Hid (RingAt (w4.setCell ⟨w2.heap.size, 1, none⟩ (.slice (some ⟨G4, 0, none⟩) (x.2.length + 1) C4)) (.agg #[(.slice (some ⟨G3, 0, none⟩) (x.1.length + 1) C3), (.slice (some ⟨G4, 0, none⟩) (x.2.length + 1) C4)]) (longT x key fr)) := ⟨(.slice (some ⟨G3, 0, none⟩) (x.1.length + 1) C3), (.slice (some ⟨G4, 0, none⟩) (x.2.length + 1) C4), rfl, (textsRow_of_owns (owns_cell478 Y4.out HU5.out 1 (.slice (some ⟨G4, 0, none⟩) (x.2.length + 1) C4)) (by simp) HFIT).at, (intsRow_of_owns (owns_cell478 U4.out HU4.out 1 (.slice (some ⟨G4, 0, none⟩) (x.2.length + 1) C4)) (by simp)).at⟩
    refine (HC.out _ _ (longT x key fr) HRA.out).mono ?_
    rintro e w5 ⟨rfl, hb5⟩
    have KT6 : Hid (Below V1.heap.size V1 w5) := KT5.out.trans (hb5.mono KT5.out.size)
    have X5 : Hid (Below W.heap.size W w5) := XV1.out.trans (KT6.out.mono XV1.out.size)
    have HB5 : Hid (Below w.heap.size w w5) := HBV1.out.trans (KT6.out.mono HBV1.out.size)
    clear hb5 HFIT p0 p1 p2
    cases hok2 : ringOk (longT x key fr) with
    | false =>
      have HMM : Hid (tofB x key fr = false ∧ tofT x key fr = (⟨#[]⟩, 0, ⟨#[]⟩)) := tof_no2 hok2
      obtain ⟨-, ⟨d0, d1, d2⟩, fz⟩ := HCELL.out w5 X5.out
      have f0 := fz 0
      have f1 := fz 1
      have f2 := fz 2
      clear fz
      go_wp2
      refine bodyPost_ret (v := .tuple #[.agg #[.string ⟨#[]⟩, .int .i64 0, .string ⟨#[]⟩], .bool false]) (by simp [results, Tryd.results15, go_sem, d0, d1, d2, World.cell?_setCell_same', World.cell?_setCell_other]) rfl ⟨(ret_turn HMM.out.2 HMM.out.1).symm, ?_⟩
      exact ((HB5.out.setCell (Nat.le_succ _) _).setCell (Nat.le_succ _) _).setCell (Nat.le_succ _) _
    | true =>
      have HMM : Hid (tofB x key fr = true ∧ tofT x key fr = (key, fr, sealT (lastK x) (turnB key fr))) := tof_yes hok hok2
      obtain ⟨q1, q2, q3⟩ := long_parts (ringOk_good hok2)
      have hks : key.size ≤ 64 := keyT_size q3
      obtain ⟨m, rfl⟩ := Int.eq_ofNat_of_zero_le (show 0 ≤ fr by omega)
      have hm9 : m ≤ 999999 := by omega
      obtain ⟨T, hT⟩ : ∃ T, turnB key (m : Int) = T := ⟨_, rfl⟩
      have hTs : T.size ≤ 200 := by
        have h := turn_len (key := key) (fr := (m : Int)) (by omega) (by omega)
        have h3 : (turnB key (m : Int)).size = (turnL key (m : Int)).length := str_sz _
        rw [← hT, h3]
        omega
      obtain ⟨LK, hLK⟩ : ∃ T, lastK x = T := ⟨_, rfl⟩
      have hLKs : LK.size ≤ maxLen := by
        obtain ⟨va9, vn9, hv9, ha9, _⟩ := HR.out
        cases hv9
        exact ha9.fit _ LK (by rw [← hLK]; exact last_at HG.out)
      obtain ⟨SL, hSL⟩ : ∃ T2, sealT LK T = T2 := ⟨_, rfl⟩
      have HM2 : Hid (tofT x key (m : Int) = (key, (m : Int), SL)) := by show _ = _; rw [HMM.out.2, hT, hLK, hSL]
      have HT : Hid (turnB key (m : Int) = T) := hT
      have HLK : Hid (lastK x = LK) := hLK
      have HSL : Hid (sealT LK T = SL) := hSL
      have HLS : Hid (LK.size ≤ maxLen) := hLKs
      obtain ⟨⟨t0, t1⟩, -, -⟩ := HCELL.out w5 X5.out
      clear hT hLK hSL hLKs q1 q2 q3 hok2 hok
      go_wp2_with fail
      refine wp_region_held_drew (S := (fun w' => w'.cell? ⟨w.heap.size, 0, none⟩ = some (.slice a l cap) ∧ w'.cell? ⟨w.heap.size, 1, none⟩ = some (.slice a' l' cap'))) (by kernel_rfl) ?_ (fun hHeld => ?_)
      · exact ⟨t0, t1⟩
      refine wpAnyH_takeD (i := 0) (d := 35) (v := .agg #[.slice a l cap, .slice a' l' cap']) rfl (by kernel_rfl) (by kernel_rfl) (by kernel_rfl) (fun _ _ _ h => h) (Or.inl ⟨by rfl, by intro w hSw; (try dsimp only at hSw); go_simp⟩) (by assumption) rfl ?_
      simp only [Act.put, List.setIfInBounds_toArray, List.set_cons_zero, List.set_cons_succ]
      have HTR : Hid (∀ V, Below V1.heap.size V1 V → V.heap[w1.heap.size]? = some (.cells #[.string key, .int .i64 (m : Int), .string ⟨#[]⟩] 28 (0, 0))) := fun V hV => (hV.block _ hzT).trans NV1.out
      have HUT : Hid (Tryd.prog.underlying 28 = _) := Tryd.underlying28
      obtain ⟨w6, hw6⟩ : ∃ x, World.drew w5 = x := ⟨_, rfl⟩
      have K6 : Hid (Below V1.heap.size V1 w6) := by show Below _ _ _; rw [← hw6]; exact KT6.out.drew
      rw [hw6]
      clear hw6 t0 t1
      refine wpAnyH_ready (rs := [1, 2]) (by kernel_rfl) (by simp) ?_
      refine AllReadyH.cons rfl (fun K hK => ?_) (AllReadyH.cons rfl (fun K hK => ?_) AllReadyH.nil)
      · skip
        go_simp
        refine (l11Last_any _ _ x (HR.out.below (HBV1.out.trans (K6.out.mono HBV1.out.size))) hl1 hl5).mono ?_
        rintro e w7 ⟨rfl, hbw7⟩
        have K7 : Hid (Below V1.heap.size V1 w7) := K6.out.trans (hbw7.mono K6.out.size)
        rw [HLK.out]
        clear hbw7
        have Xw7 : Hid (Below W.heap.size W w7) := XV1.out.trans (K7.out.mono XV1.out.size)
        obtain ⟨⟨t0, t1⟩, -, -⟩ := HCELL.out w7 Xw7.out
        refine hK.out _ _ ?_ (fun hHeld => ?_)
        · exact ⟨t0, t1⟩
        clear hK K t0 t1
        try simp only [Act.put, List.setIfInBounds_toArray, List.set_cons_zero, List.set_cons_succ]
        refine wpAnyH_ready (rs := [2]) (by kernel_rfl) (by simp) ?_
        refine AllReadyH.cons rfl (fun K hK => ?_) AllReadyH.nil
        refine step_load_row rfl 28 (.tmp 8) rfl w1.heap.size rfl 28 #[.string key, .int .i64 (m : Int), .string ⟨#[]⟩] (0, 0) _ (HTR.out w7 K7.out) HUT.out rfl HS3.out (n := 37) rfl ?_
        have Xw7 : Hid (Below W.heap.size W w7) := XV1.out.trans (K7.out.mono XV1.out.size)
        obtain ⟨⟨t0, t1⟩, -, -⟩ := HCELL.out w7 Xw7.out
        refine hK.out _ _ ?_ (fun hHeld => ?_)
        · exact ⟨t0, t1⟩
        clear hK K t0 t1
        try simp only [Act.put, List.setIfInBounds_toArray, List.set_cons_zero, List.set_cons_succ]
        refine wpAnyH_ready (rs := [3]) (by kernel_rfl) (by simp) ?_
        refine AllReadyH.cons rfl (fun K hK => ?_) AllReadyH.nil
        go_simp
        refine (l11Text_any _ key ⟨#[]⟩ m hks hm9).mono ?_
        rintro e w8 ⟨rfl, hbw8⟩
        have K8 : Hid (Below V1.heap.size V1 w8) := K7.out.trans (hbw8.mono K7.out.size)
        rw [HT.out]
        clear hbw8
        have Xw8 : Hid (Below W.heap.size W w8) := XV1.out.trans (K8.out.mono XV1.out.size)
        obtain ⟨⟨t0, t1⟩, -, -⟩ := HCELL.out w8 Xw8.out
        refine hK.out _ _ ?_ (fun hHeld => ?_)
        · exact ⟨t0, t1⟩
        clear hK K t0 t1
        try simp only [Act.put, List.setIfInBounds_toArray, List.set_cons_zero, List.set_cons_succ]
        refine wpAnyH_ready (rs := [4]) (by kernel_rfl) (by simp) ?_
        refine AllReadyH.cons rfl (fun K hK => ?_) AllReadyH.nil
        go_simp
        refine (specSealOf_any _ LK T HLS.out (by omega)).mono ?_
        rintro e w9 ⟨rfl, hbw9⟩
        have K9 : Hid (Below V1.heap.size V1 w9) := K8.out.trans (hbw9.mono K8.out.size)
        rw [HSL.out]
        clear hbw9
        have Xw9 : Hid (Below W.heap.size W w9) := XV1.out.trans (K9.out.mono XV1.out.size)
        obtain ⟨⟨t0, t1⟩, -, -⟩ := HCELL.out w9 Xw9.out
        refine hK.out _ _ ?_ (fun hHeld => ?_)
        · exact ⟨t0, t1⟩
        clear hK K t0 t1
        try simp only [Act.put, List.setIfInBounds_toArray, List.set_cons_zero, List.set_cons_succ]
        refine wpAnyH_takeD (i := 5) (d := 40) (v := .pointer (some ⟨w1.heap.size, 2, none⟩)) rfl (by kernel_rfl) (by kernel_rfl) (by kernel_rfl) (fun _ _ _ h => h) (Or.inl ⟨by rfl, by intro w hSw; (try dsimp only at hSw); go_simp⟩) (by assumption) rfl ?_
        simp only [Act.put, List.setIfInBounds_toArray, List.set_cons_zero, List.set_cons_succ]
        obtain ⟨x0, x1, x2, x3⟩ := HTC.out w9 K9.out
        refine wpAnyH_ready (rs := [6]) (by kernel_rfl) (by simp) ?_
        refine AllReadyH.cons rfl (fun K hK => ?_) AllReadyH.nil
        go_simp
        obtain ⟨⟨t0, t1⟩, ⟨d0, d1, d2⟩, fz⟩ := HCELL.out w9 Xw9.out
        have f0 := fz 0
        have f1 := fz 1
        have f2 := fz 2
        have HBw9 : Hid (Below w.heap.size w w9) := HBV1.out.trans (K9.out.mono HBV1.out.size)
        have hTW : w.heap.size + 1 < w1.heap.size := Nat.lt_of_lt_of_le hz1 X1.out.size
        clear fz
        refine hK.out _ _ ?_ (fun hHeld => ?_)
        · exact ⟨(cell_set431 _ _ _ (by omega)).trans t0, (cell_set431 _ _ _ (by omega)).trans t1⟩
        clear hK K
        refine wpAnyH_done (by kernel_rfl) ?_ _
        have hT1 : w1.heap.size ≠ w.heap.size + 1 := by omega
        have hT2 : w.heap.size + 1 ≠ w1.heap.size := by omega
        go_wp2
        refine bodyPost_ret (v := .tuple #[.agg #[.string key, .int .i64 (m : Int), .string SL], .bool true]) (by simp [results, Tryd.results15, go_sem, d0, d1, d2, World.cell?_setCell_same', World.cell?_setCell_other]) rfl ⟨?_, ?_⟩
        · rw [HMM.out.1, HM2.out]
          rfl
        · exact (((HBw9.out.setCell (p := ⟨w1.heap.size, 2, none⟩) (by show w.heap.size ≤ w1.heap.size; omega) _).setCell (Nat.le_succ _) _).setCell (Nat.le_succ _) _).setCell (Nat.le_succ _) _
      · skip
        refine step_load_row rfl 28 (.tmp 8) rfl w1.heap.size rfl 28 #[.string key, .int .i64 (m : Int), .string ⟨#[]⟩] (0, 0) _ (HTR.out w6 K6.out) HUT.out rfl HS3.out (n := 37) rfl ?_
        have Xw6 : Hid (Below W.heap.size W w6) := XV1.out.trans (K6.out.mono XV1.out.size)
        obtain ⟨⟨t0, t1⟩, -, -⟩ := HCELL.out w6 Xw6.out
        refine hK.out _ _ ?_ (fun hHeld => ?_)
        · exact ⟨t0, t1⟩
        clear hK K t0 t1
        try simp only [Act.put, List.setIfInBounds_toArray, List.set_cons_zero, List.set_cons_succ]
        refine wpAnyH_ready (rs := [1]) (by kernel_rfl) (by simp) ?_
        refine AllReadyH.cons rfl (fun K hK => ?_) AllReadyH.nil
        go_simp
        refine (l11Last_any _ _ x (HR.out.below (HBV1.out.trans (K6.out.mono HBV1.out.size))) hl1 hl5).mono ?_
        rintro e w7 ⟨rfl, hbw7⟩
        have K7 : Hid (Below V1.heap.size V1 w7) := K6.out.trans (hbw7.mono K6.out.size)
        rw [HLK.out]
        clear hbw7
        have Xw7 : Hid (Below W.heap.size W w7) := XV1.out.trans (K7.out.mono XV1.out.size)
        obtain ⟨⟨t0, t1⟩, -, -⟩ := HCELL.out w7 Xw7.out
        refine hK.out _ _ ?_ (fun hHeld => ?_)
        · exact ⟨t0, t1⟩
        clear hK K t0 t1
        try simp only [Act.put, List.setIfInBounds_toArray, List.set_cons_zero, List.set_cons_succ]
        refine wpAnyH_ready (rs := [3]) (by kernel_rfl) (by simp) ?_
        refine AllReadyH.cons rfl (fun K hK => ?_) AllReadyH.nil
        go_simp
        refine (l11Text_any _ key ⟨#[]⟩ m hks hm9).mono ?_
        rintro e w8 ⟨rfl, hbw8⟩
        have K8 : Hid (Below V1.heap.size V1 w8) := K7.out.trans (hbw8.mono K7.out.size)
        rw [HT.out]
        clear hbw8
        have Xw8 : Hid (Below W.heap.size W w8) := XV1.out.trans (K8.out.mono XV1.out.size)
        obtain ⟨⟨t0, t1⟩, -, -⟩ := HCELL.out w8 Xw8.out
        refine hK.out _ _ ?_ (fun hHeld => ?_)
        · exact ⟨t0, t1⟩
        clear hK K t0 t1
        try simp only [Act.put, List.setIfInBounds_toArray, List.set_cons_zero, List.set_cons_succ]
        refine wpAnyH_ready (rs := [4]) (by kernel_rfl) (by simp) ?_
        refine AllReadyH.cons rfl (fun K hK => ?_) AllReadyH.nil
        go_simp
        refine (specSealOf_any _ LK T HLS.out (by omega)).mono ?_
        rintro e w9 ⟨rfl, hbw9⟩
        have K9 : Hid (Below V1.heap.size V1 w9) := K8.out.trans (hbw9.mono K8.out.size)
        rw [HSL.out]
        clear hbw9
        have Xw9 : Hid (Below W.heap.size W w9) := XV1.out.trans (K9.out.mono XV1.out.size)
        obtain ⟨⟨t0, t1⟩, -, -⟩ := HCELL.out w9 Xw9.out
        refine hK.out _ _ ?_ (fun hHeld => ?_)
        · exact ⟨t0, t1⟩
        clear hK K t0 t1
        try simp only [Act.put, List.setIfInBounds_toArray, List.set_cons_zero, List.set_cons_succ]
        refine wpAnyH_takeD (i := 5) (d := 40) (v := .pointer (some ⟨w1.heap.size, 2, none⟩)) rfl (by kernel_rfl) (by kernel_rfl) (by kernel_rfl) (fun _ _ _ h => h) (Or.inl ⟨by rfl, by intro w hSw; (try dsimp only at hSw); go_simp⟩) (by assumption) rfl ?_
        simp only [Act.put, List.setIfInBounds_toArray, List.set_cons_zero, List.set_cons_succ]
        obtain ⟨x0, x1, x2, x3⟩ := HTC.out w9 K9.out
        refine wpAnyH_ready (rs := [6]) (by kernel_rfl) (by simp) ?_
        refine AllReadyH.cons rfl (fun K hK => ?_) AllReadyH.nil
        go_simp
        obtain ⟨⟨t0, t1⟩, ⟨d0, d1, d2⟩, fz⟩ := HCELL.out w9 Xw9.out
        have f0 := fz 0
        have f1 := fz 1
        have f2 := fz 2
        have HBw9 : Hid (Below w.heap.size w w9) := HBV1.out.trans (K9.out.mono HBV1.out.size)
        have hTW : w.heap.size + 1 < w1.heap.size := Nat.lt_of_lt_of_le hz1 X1.out.size
        clear fz
        refine hK.out _ _ ?_ (fun hHeld => ?_)
        · exact ⟨(cell_set431 _ _ _ (by omega)).trans t0, (cell_set431 _ _ _ (by omega)).trans t1⟩
        clear hK K
        refine wpAnyH_done (by kernel_rfl) ?_ _
        have hT1 : w1.heap.size ≠ w.heap.size + 1 := by omega
        have hT2 : w.heap.size + 1 ≠ w1.heap.size := by omega
        go_wp2
        refine bodyPost_ret (v := .tuple #[.agg #[.string key, .int .i64 (m : Int), .string SL], .bool true]) (by simp [results, Tryd.results15, go_sem, d0, d1, d2, World.cell?_setCell_same', World.cell?_setCell_other]) rfl ⟨?_, ?_⟩
        · rw [HMM.out.1, HM2.out]
          rfl
        · exact (((HBw9.out.setCell (p := ⟨w1.heap.size, 2, none⟩) (by show w.heap.size ≤ w1.heap.size; omega) _).setCell (Nat.le_succ _) _).setCell (Nat.le_succ _) _).setCell (Nat.le_succ _) _
end Go.Proofs.YtdjpeickokoclaaDoor
/-
  A turn taken: the model, and spec.RingTake.
-/
namespace Go.Proofs.YtdjpeickokoclaaDoor
open Go.RowKit
set_option linter.unusedVariables false
noncomputable def rtkB (x : RingM) (t : TurnM) : Bool := tofB x t.1 t.2.1 && decide ((tofT x t.1 t.2.1).2.2 = t.2.2)
noncomputable def rtkT (x : RingM) (t : TurnM) : RingM := if ringOk x then (if rtkB x t then longT x t.1 t.2.1 else x) else ([], [])
theorem rtk_no1 {x : RingM} (t : TurnM) (h : ringOk x = false) : rtkB x t = false ∧ rtkT x t = ([], []) := by
  constructor
  · unfold rtkB; rw [(tof_no1 _ _ h).1]; rfl
  · unfold rtkT; rw [h]; rfl
theorem rtk_no2 {x : RingM} {t : TurnM} (h : ringOk x = true) (h2 : tofB x t.1 t.2.1 = false) : rtkB x t = false ∧ rtkT x t = x := by
  have e : rtkB x t = false := by unfold rtkB; rw [h2]; rfl
  refine ⟨e, ?_⟩
  unfold rtkT
  rw [h, e]
  rfl
theorem rtk_no3 {x : RingM} {t : TurnM} (h : ringOk x = true) (h2 : (tofT x t.1 t.2.1).2.2 ≠ t.2.2) : rtkB x t = false ∧ rtkT x t = x := by
  have e : rtkB x t = false := by unfold rtkB; rw [decide_eq_false h2, Bool.and_false]
  refine ⟨e, ?_⟩
  unfold rtkT
  rw [h, e]
  rfl
theorem rtk_yes {x : RingM} {t : TurnM} (h : ringOk x = true) (h1 : tofB x t.1 t.2.1 = true) (h2 : (tofT x t.1 t.2.1).2.2 = t.2.2) : rtkB x t = true ∧ rtkT x t = longT x t.1 t.2.1 := by
  have e : rtkB x t = true := by unfold rtkB; rw [decide_eq_true h2, h1]; rfl
  refine ⟨e, ?_⟩
  unfold rtkT
  rw [h, e]
  rfl
theorem eqL480 (a b : ByteArray) : (a.toList == b.toList) = decide (a = b) := by
  by_cases h : a = b
  · subst h
    simp
  · rw [decide_eq_false h]
    apply Bool.eq_false_iff.2
    intro e
    have e2 := eq_of_beq e
    rw [ByteArray.toList_eq, ByteArray.toList_eq] at e2
    exact h (by cases a; cases b; simp at e2; rw [e2])
theorem fit_long {x : RingM} {key : ByteArray} (hf : ∀ (i : Nat) (y : ByteArray), x.1[i]? = some y → y.size ≤ maxLen) (hk : key.size ≤ maxLen) : ∀ (i : Nat) (y : ByteArray), (x.1 ++ [key])[i]? = some y → y.size ≤ maxLen := by
  intro i y hy
  rcases Nat.lt_or_ge i x.1.length with h | h
  · rw [List.getElem?_append_left h] at hy
    exact hf i y hy
  · rw [List.getElem?_append_right h] at hy
    have := List.mem_of_getElem? hy
    simp at this
    rw [this]
    exact hk
theorem good_fit {x : RingM} (h : RingGood x) : ∀ (i : Nat) (y : ByteArray), x.1[i]? = some y → y.size ≤ maxLen := by
  intro i y hy
  have h1 := (h.2.2.2.2.1 i y hy).1
  exact Nat.le_trans (keyT_size h1) (by decide)
theorem RingOwn.weak480 {lo hi lo' hi' : Nat} {w : World} {v : Value} {x : RingM} (h : RingOwn lo hi w v x) (h1 : lo' ≤ lo) (h2 : hi ≤ hi') : RingOwn lo' hi' w v x := by
  obtain ⟨va, vn, hv, k1, k2⟩ := h
  exact ⟨va, vn, hv, k1.weak h1 h2, k2.weak h1 h2⟩
set_option maxRecDepth 100000 in
set_option maxHeartbeats 8000000 in
theorem specRingTake_own (w : World) (v : Value) (x : RingM) (key : ByteArray) (fr : Int) (sl : ByteArray) (h : RingAt w v x) (hk : key.size ≤ maxLen) :
    Calls Tryd.prog 7 #[v, .agg #[.string key, .int .i64 fr, .string sl]] w fun e w' => ∃ v', e = .returned (.tuple #[v', .bool (rtkB x (key, fr, sl))]) ∧ RingOwn w.heap.size w'.heap.size w' v' (rtkT x (key, fr, sl)) ∧ Below w.heap.size w w' := by
  obtain ⟨a, l, cap, a', l', cap', rfl⟩ := h.form2
  have HR : Hid (RingAt w (.agg #[.slice a l cap, .slice a' l' cap']) x) := h
  have HK : Hid (key.size ≤ maxLen) := hk
  have HS3 : Hid ((Tryd.prog.info? 28).map (·.size) = some 3) := info_turn478
  have HS2 : Hid ((Tryd.prog.info? 26).map (·.size) = some 2) := info_ring478
  obtain ⟨i3, hi3, hz3, hs3, hb3⟩ := info_parts Tryd.info_str405
  obtain ⟨i4, hi4, hz4, hs4, hb4⟩ := info_parts Tryd.info_int405
  obtain ⟨W, hW⟩ : ∃ W, ((w.alloc (.cells #[.slice a l cap, .slice a' l' cap'] 26)).alloc (.cells #[.string key, .int .i64 fr, .string sl] 28)).alloc (.cells #[.slice none 0 0, .slice none 0 0] 26) = W := ⟨_, rfl⟩
  have hz2 : ((w.alloc (.cells #[.slice a l cap, .slice a' l' cap'] 26)).alloc (.cells #[.string key, .int .i64 fr, .string sl] 28)).heap.size = w.heap.size + 1 + 1 := by simp
  have N0 : W.heap[w.heap.size]? = some (.cells #[.slice a l cap, .slice a' l' cap'] 26 (0, 0)) := by
    rw [← hW, Below.heap_alloc _ _ _ (by rw [hz2]; omega)]
    exact heap_alloc2_old _ _ _
  have N1 : W.heap[w.heap.size + 1]? = some (.cells #[.string key, .int .i64 fr, .string sl] 28 (0, 0)) := by
    rw [← hW, Below.heap_alloc _ _ _ (by rw [hz2]; omega)]
    exact heap_alloc2_new _ _ _
  have N2 : W.heap[w.heap.size + 1 + 1]? = some (.cells #[.slice none 0 0, .slice none 0 0] 26 (0, 0)) := by
    have h9 := heap_alloc_last ((w.alloc (.cells #[.slice a l cap, .slice a' l' cap'] 26)).alloc (.cells #[.string key, .int .i64 fr, .string sl] 28)) (.cells #[.slice none 0 0, .slice none 0 0] 26)
    rw [hz2, hW] at h9
    exact h9
  have HB0 : Hid (Below w.heap.size w W) := by show Below _ _ _; rw [← hW]; exact (((Below.refl _ _).alloc (Nat.le_refl _) _).alloc (by simp <;> omega) _).alloc (by simp <;> omega) _
  have hz9 : w.heap.size + 1 + 1 < W.heap.size := (Array.getElem?_eq_some_iff.1 N2).1
  have HW : Hid (((w.alloc (.cells #[.slice a l cap, .slice a' l' cap'] 26)).alloc (.cells #[.string key, .int .i64 fr, .string sl] 28)).alloc (.cells #[.slice none 0 0, .slice none 0 0] 26) = W) := hW
  have HC : Hid (∀ (w : World) (v : Value) (x : RingM), RingAt w v x → Calls Tryd.prog 9 #[v] w fun e w' => e = .returned (.bool (ringOk x)) ∧ Below w.heap.size w w') := fun w v x h => specRingOk_any w v x h
  have HCELL : Hid (∀ (V : World), Below W.heap.size W V → (V.cell? ⟨w.heap.size, 0, none⟩ = some (.slice a l cap) ∧ V.cell? ⟨w.heap.size, 1, none⟩ = some (.slice a' l' cap')) ∧ (V.cell? ⟨w.heap.size + 1, 0, none⟩ = some (.string key) ∧ V.cell? ⟨w.heap.size + 1, 1, none⟩ = some (.int .i64 fr) ∧ V.cell? ⟨w.heap.size + 1, 2, none⟩ = some (.string sl)) ∧ (V.cell? ⟨w.heap.size + 1 + 1, 0, none⟩ = some (.slice none 0 0) ∧ V.cell? ⟨w.heap.size + 1 + 1, 1, none⟩ = some (.slice none 0 0)) ∧ ∀ i, V.frozen? ⟨w.heap.size + 1 + 1, i, none⟩ = false) := fun V hV => by
    have e0 : V.heap[w.heap.size]? = _ := (hV.block _ (by omega)).trans N0
    have e1 : V.heap[w.heap.size + 1]? = _ := (hV.block _ (by omega)).trans N1
    have e2 : V.heap[w.heap.size + 1 + 1]? = _ := (hV.block _ hz9).trans N2
    exact ⟨⟨by rw [cell_of_row _ _ 0 _ _ _ e0]; rfl, by rw [cell_of_row _ _ 1 _ _ _ e0]; rfl⟩, ⟨by rw [cell_of_row _ _ 0 _ _ _ e1]; rfl, by rw [cell_of_row _ _ 1 _ _ _ e1]; rfl, by rw [cell_of_row _ _ 2 _ _ _ e1]; rfl⟩, ⟨by rw [cell_of_row _ _ 0 _ _ _ e2]; rfl, by rw [cell_of_row _ _ 1 _ _ _ e2]; rfl⟩, fun i => frozen_of_row _ _ i _ _ e2⟩
  obtain ⟨⟨s0, s1⟩, -, -, -⟩ := HCELL.out W (Below.refl _ _)
  clear h hk hW N0 N1 N2 hz2
  cases hok : ringOk x with
  | false =>
    have HMM : Hid (rtkB x (key, fr, sl) = false ∧ rtkT x (key, fr, sl) = ([], [])) := rtk_no1 _ hok
    go_enter Tryd.func7, Tryd.ntmps7
    go_wp2_with fail
    try rw [HW.out]
    refine (HC.out _ _ x (HR.out.below HB0.out)).mono ?_
    rintro e w1 ⟨rfl, hb1⟩
    rw [hok]
    obtain ⟨-, -, ⟨d0, d1⟩, fz⟩ := HCELL.out w1 hb1
    have f0 := fz 0
    have f1 := fz 1
    have HB1 : Hid (Below w.heap.size w w1) := HB0.out.trans (hb1.mono (by omega))
    clear hb1 fz
    go_wp2
    refine bodyPost_ret (v := .tuple #[.agg #[.slice none 0 0, .slice none 0 0], .bool false]) (by simp [results, Tryd.results7, go_sem, d0, d1, World.cell?_setCell_same', World.cell?_setCell_other]) rfl ⟨_, by rw [HMM.out.1], by rw [HMM.out.2]; exact nilRing _, ?_⟩
    exact (HB1.out.setCell (p := ⟨w.heap.size + 1 + 1, 0, none⟩) (by show w.heap.size ≤ w.heap.size + 1 + 1; omega) _).setCell (p := ⟨w.heap.size + 1 + 1, 1, none⟩) (by show w.heap.size ≤ w.heap.size + 1 + 1; omega) _
  | true =>
    have HG : Hid (RingGood x) := ringOk_good hok
    have hl1 : 1 ≤ x.1.length := HG.out.1
    have hl5 : x.1.length ≤ 5 := HG.out.2.1
    have HL6 : Hid (x.2.length = x.1.length) := HG.out.2.2.1
    have hl7 : 1 ≤ x.2.length := by have := HL6.out; omega
    have hl8 : x.2.length ≤ 5 := by have := HL6.out; omega
    obtain ⟨⟨tk, tf, ts⟩, hT⟩ : ∃ t, tofT x key fr = t := ⟨_, rfl⟩
    obtain ⟨B, hB⟩ : ∃ b, tofB x key fr = b := ⟨_, rfl⟩
    have HSP : Hid (∀ (w : World) (u0 : Value), RingAt w u0 x → Calls Tryd.prog 15 #[u0, .string key, .int .i64 fr] w fun e w' => e = .returned (.tuple #[.agg #[.string tk, .int .i64 tf, .string ts], .bool B]) ∧ Below w.heap.size w w') := fun w u0 g0 => by
      have := specTurnOf_any w u0 x key fr g0 HK.out
      rw [hT, hB] at this
      exact this
    have HN2 : Hid (B = false → rtkB x (key, fr, sl) = false ∧ rtkT x (key, fr, sl) = x) := fun h => rtk_no2 (t := (key, fr, sl)) hok (hB.trans h)
    have HN3 : Hid (ts ≠ sl → rtkB x (key, fr, sl) = false ∧ rtkT x (key, fr, sl) = x) := fun h => rtk_no3 (t := (key, fr, sl)) hok (by show (tofT x key fr).2.2 ≠ sl; rw [hT]; exact h)
    have HYES : Hid (B = true → ts = sl → rtkB x (key, fr, sl) = true ∧ rtkT x (key, fr, sl) = longT x key fr) := fun h h2 => rtk_yes (t := (key, fr, sl)) hok (hB.trans h) (by show (tofT x key fr).2.2 = sl; rw [hT]; exact h2)
    clear hT hB
    go_enter Tryd.func7, Tryd.ntmps7
    go_wp2_with fail
    try rw [HW.out]
    refine (HC.out _ _ x (HR.out.below HB0.out)).mono ?_
    rintro e w1 ⟨rfl, hb1⟩
    rw [hok]
    have X1 : Hid (Below W.heap.size W w1) := hb1
    have HB1 : Hid (Below w.heap.size w w1) := HB0.out.trans (hb1.mono (by omega))
    obtain ⟨⟨y0, y1⟩, ⟨b0, b1, b2⟩, -, -⟩ := HCELL.out w1 X1.out
    clear hb1 s0 s1
    go_wp2_with fail
    refine (HSP.out _ _ (HR.out.below HB1.out)).mono ?_
    rintro e w2 ⟨rfl, hb2⟩
    have X2 : Hid (Below W.heap.size W w2) := X1.out.trans (hb2.mono X1.out.size)
    have HB2 : Hid (Below w.heap.size w w2) := HB1.out.trans (hb2.mono HB1.out.size)
    have NT : Hid ((w2.alloc (.cells #[.string ⟨#[]⟩, .int .i64 0, .string ⟨#[]⟩] 28)).heap[w2.heap.size]? = some (.cells #[.string ⟨#[]⟩, .int .i64 0, .string ⟨#[]⟩] 28 (0, 0))) := heap_alloc_last _ _
    obtain ⟨V2, hV2⟩ : ∃ X, (w2.alloc (.cells #[.string ⟨#[]⟩, .int .i64 0, .string ⟨#[]⟩] 28)).setRow w2.heap.size #[.string tk, .int .i64 tf, .string ts] = X := ⟨_, rfl⟩
    have NV2 : Hid (V2.heap[w2.heap.size]? = some (.cells #[.string tk, .int .i64 tf, .string ts] 28 (0, 0))) := by show _ = _; rw [← hV2]; exact setRow_heap _ _ _ _ _ _ NT.out
    have KV2 : Hid (Below w2.heap.size w2 V2) := by show Below _ _ _; rw [← hV2]; exact below_setRow ((Below.refl _ _).alloc (Nat.le_refl _) _) (Nat.le_refl _) _
    have XV2 : Hid (Below W.heap.size W V2) := X2.out.trans (KV2.out.mono X2.out.size)
    have HBV2 : Hid (Below w.heap.size w V2) := HB2.out.trans (KV2.out.mono HB2.out.size)
    have hzT : w2.heap.size < V2.heap.size := (Array.getElem?_eq_some_iff.1 NV2.out).1
    clear y0 y1 b0 b1 b2
    obtain ⟨⟨y0, y1⟩, -, -, -⟩ := HCELL.out V2 XV2.out
    clear hb2
    go_wp2_with (refine wpList_store_row rfl 28 _ _ rfl w2.heap.size #[.string tk, .int .i64 tf, .string ts] rfl rfl 28 _ NT.out HS3.out rfl (by simp [Value.oneCell']) ?_; rw [hV2])
    refine (l11Copy_any _ _ x (HR.out.below HBV2.out) hl1 (by omega) (by omega) (by omega)).mono ?_
    rintro e w3 ⟨g1, n1, c1, g2, n2, c2, rfl, ho1, ho2, hb3'⟩
    have O1 : Hid (w3.ownsRow V2.heap.size 9 1 (.slice g1 n1 c1) x.1.length (texts x.1)) := ho1
    have O2 : Hid (w3.ownsRow V2.heap.size 3 1 (.slice g2 n2 c2) x.2.length (intsV x.2)) := ho2
    have KT2 : Hid (Below V2.heap.size V2 w3) := hb3'
    have HZ3 : Hid (w.heap.size + 1 + 1 < w3.heap.size) := Nat.lt_of_lt_of_le hz9 (Nat.le_trans XV2.out.size hb3'.size)
    have NX : Hid ((w3.alloc (.cells #[.slice none 0 0, .slice none 0 0] 26)).heap[w3.heap.size]? = some (.cells #[.slice none 0 0, .slice none 0 0] 26 (0, 0))) := heap_alloc_last _ _
    obtain ⟨V3, hV3⟩ : ∃ X, (w3.alloc (.cells #[.slice none 0 0, .slice none 0 0] 26)).setRow w3.heap.size #[.slice g1 n1 c1, .slice g2 n2 c2] = X := ⟨_, rfl⟩
    have NV3 : Hid (V3.heap[w3.heap.size]? = some (.cells #[.slice g1 n1 c1, .slice g2 n2 c2] 26 (0, 0))) := by show _ = _; rw [← hV3]; exact setRow_heap _ _ _ _ _ _ NX.out
    have KV3 : Hid (Below w3.heap.size w3 V3) := by show Below _ _ _; rw [← hV3]; exact below_setRow ((Below.refl _ _).alloc (Nat.le_refl _) _) (Nat.le_refl _) _
    have P1 : Hid (V3.ownsRow V2.heap.size 9 1 (.slice g1 n1 c1) x.1.length (texts x.1)) := owns_below O1.out KV3.out
    have P2 : Hid (V3.ownsRow V2.heap.size 3 1 (.slice g2 n2 c2) x.2.length (intsV x.2)) := owns_below O2.out KV3.out
    have KTV3 : Hid (Below V2.heap.size V2 V3) := KT2.out.trans (KV3.out.mono KT2.out.size)
    have XV3 : Hid (Below W.heap.size W V3) := XV2.out.trans (KTV3.out.mono XV2.out.size)
    have HBV3 : Hid (Below w.heap.size w V3) := HBV2.out.trans (KTV3.out.mono HBV2.out.size)
    have hzX : w3.heap.size < V3.heap.size := (Array.getElem?_eq_some_iff.1 NV3.out).1
    have k0 : V3.cell? ⟨w3.heap.size, 0, none⟩ = some (.slice g1 n1 c1) := by rw [cell_of_row _ _ 0 _ _ _ NV3.out]; rfl
    have HN1 : Hid (∀ g, (Value.slice g1 n1 c1).ownBlock = some g → g ≠ w3.heap.size) := fun g hg => Nat.ne_of_lt (World.ownsRow.lt O1.out g hg).2
    have HN2' : Hid (∀ g, (Value.slice g2 n2 c2).ownBlock = some g → g ≠ w3.heap.size) := fun g hg => Nat.ne_of_lt (World.ownsRow.lt O2.out g hg).2
    have KT9 : Hid (∀ V, Below V2.heap.size V2 V → V.cell? ⟨w2.heap.size, 2, none⟩ = some (.string ts)) := fun V hV => by
      have e9 : V.heap[w2.heap.size]? = _ := (hV.block _ hzT).trans NV2.out
      rw [cell_of_row _ _ 2 _ _ _ e9]
      rfl
    have t2 := KT9.out V3 KTV3.out
    obtain ⟨-, ⟨b0, b1, b2⟩, ⟨d0, d1⟩, fz⟩ := HCELL.out V3 XV3.out
    have hq : (ts.toList == sl.toList) = decide (ts = sl) := eqL480 _ _
    clear ho1 ho2 hb3' y0 y1
    by_cases hyes : B = true ∧ ts = sl
    · obtain ⟨hB1, hS1⟩ := hyes
      have HMM := HYES.out hB1 hS1
      subst hB1
      rw [decide_eq_true hS1] at hq
      have Q1 : Hid ((V3.alloc (.cells #[.string key] 9)).ownsRow V2.heap.size 9 1 (.slice g1 n1 c1) x.1.length (texts x.1)) := owns_below P1.out ((Below.refl _ _).alloc (Nat.le_refl _) _)
      have Q2 : Hid ((V3.alloc (.cells #[.string key] 9)).ownsRow V2.heap.size 3 1 (.slice g2 n2 c2) x.2.length (intsV x.2)) := owns_below P2.out ((Below.refl _ _).alloc (Nat.le_refl _) _)
      have NK : Hid ((V3.alloc (.cells #[.string key] 9)).heap[V3.heap.size]? = some (.cells #[.string key] 9 (0, 0))) := heap_alloc_last _ _
      have NX2 : Hid ((V3.alloc (.cells #[.string key] 9)).heap[w3.heap.size]? = some (.cells #[.slice g1 n1 c1, .slice g2 n2 c2] 26 (0, 0))) := by
        show _ = _
        rw [Below.heap_alloc _ _ _ hzX]
        exact NV3.out
      have KTE : Hid (Below V2.heap.size V2 (V3.alloc (.cells #[.string key] 9))) := KTV3.out.alloc KTV3.out.size _
      clear fz d0 d1
      go_wp2_with (first
        | (refine wpList_store_row rfl 26 _ _ rfl w3.heap.size #[.slice g1 n1 c1, .slice g2 n2 c2] rfl rfl 26 _ NX.out HS2.out rfl (by simp [Value.oneCell']) ?_; rw [hV3])
        | (at_builtin; refine wpList_append_own _ rfl _ _ 23 rfl V2.heap.size 9 i3 (.string ⟨#[]⟩) 1 16 Tryd.underlying23 hi3 hz3 hs3 hb3 rfl (by decide) (.slice g1 n1 c1) x.1.length (texts x.1) rfl Q1.out ⟨V3.heap.size, 0, none⟩ 1 1 [.string key] rfl rfl (news_cells NK.out) (one_text key) (by unfold maxLen; omega) (by omega) KTE.out.size ?_; intro U_3 w4 hown3 hgrow3 hnil3; obtain ⟨G3, C3, rfl, -, -⟩ := World.ownsRow.form hown3 (Nat.succ_pos _); clear k0; have U3 : Hid (w4.ownsRow V2.heap.size 9 1 (.slice (some ⟨G3, 0, none⟩) (x.1.length + 1) C3) (x.1.length + 1) (texts (x.1 ++ [key]))) := (by rw [texts_long] at hown3; exact hown3); have R2 : Hid (w4.ownsRow V2.heap.size 3 1 (.slice g2 n2 c2) x.2.length (intsV x.2)) := owns_grown Q2.out Q1.out (by decide) hgrow3; have KT3 : Hid (Below V2.heap.size V2 w4) := KTE.out.trans (below_of_grown hgrow3 (fun z hz => (World.ownsRow.lt Q1.out z hz).1) KTE.out.size); have X4 : Hid (Below W.heap.size W w4) := XV2.out.trans (KT3.out.mono XV2.out.size); obtain ⟨-, ⟨-, b41, -⟩, -, -⟩ := HCELL.out w4 X4.out; clear b0 b1; have n41 : w3.heap.size ≠ w.heap.size + 1 := (by have := HZ3.out; omega); have n42 : w.heap.size + 1 ≠ w3.heap.size := (by have := HZ3.out; omega); have NX3 : w4.heap[w3.heap.size]? = some (.cells #[.slice g1 n1 c1, .slice g2 n2 c2] 26 (0, 0)) := (hgrow3.block w3.heap.size (lt_of_block405 NX2.out) (fun e => HN1.out _ e.symm rfl)).trans NX2.out; have q0 : w4.cell? ⟨w3.heap.size, 0, none⟩ = some (.slice g1 n1 c1) := (by rw [cell_of_row _ _ 0 _ _ _ NX3]; rfl); have q1 : w4.cell? ⟨w3.heap.size, 1, none⟩ = some (.slice g2 n2 c2) := (by rw [cell_of_row _ _ 1 _ _ _ NX3]; rfl); have q2 : w4.frozen? ⟨w3.heap.size, 0, none⟩ = false := frozen_of_row _ _ 0 _ _ NX3; have HNX3 : Hid (w4.heap[w3.heap.size]? = some (.cells #[.slice g1 n1 c1, .slice g2 n2 c2] 26 (0, 0))) := NX3; have NK2 : Hid (((w4.setCell ⟨w3.heap.size, 0, none⟩ (.slice (some ⟨G3, 0, none⟩) (x.1.length + 1) C3)).alloc (.cells #[.int .i64 fr] 3)).heap[w4.heap.size]? = some (.cells #[.int .i64 fr] 3 (0, 0))) := (by have h9 := heap_alloc_last (w4.setCell ⟨w3.heap.size, 0, none⟩ (.slice (some ⟨G3, 0, none⟩) (x.1.length + 1) C3)) (.cells #[.int .i64 fr] 3); rw [World.size_setCell] at h9; exact h9); have HU3 : Hid (∀ g, (.slice (some ⟨G3, 0, none⟩) (x.1.length + 1) C3 : Value).ownBlock = some g → g ≠ w3.heap.size) := owns_ne478 U3.out NX3 (by decide); have KS3 : Hid (Below V2.heap.size V2 (w4.setCell ⟨w3.heap.size, 0, none⟩ (.slice (some ⟨G3, 0, none⟩) (x.1.length + 1) C3))) := KT3.out.setCell (p := ⟨w3.heap.size, 0, none⟩) KT2.out.size _; have W3 : Hid (((w4.setCell ⟨w3.heap.size, 0, none⟩ (.slice (some ⟨G3, 0, none⟩) (x.1.length + 1) C3)).alloc (.cells #[.int .i64 fr] 3)).ownsRow V2.heap.size 3 1 (.slice g2 n2 c2) x.2.length (intsV x.2)) := owns_below (owns_cell478 R2.out HN2'.out 0 (.slice (some ⟨G3, 0, none⟩) (x.1.length + 1) C3)) ((Below.refl _ _).alloc (Nat.le_refl _) _); have Y3 : Hid (((w4.setCell ⟨w3.heap.size, 0, none⟩ (.slice (some ⟨G3, 0, none⟩) (x.1.length + 1) C3)).alloc (.cells #[.int .i64 fr] 3)).ownsRow V2.heap.size 9 1 (.slice (some ⟨G3, 0, none⟩) (x.1.length + 1) C3) (x.1.length + 1) (texts (x.1 ++ [key]))) := owns_below (owns_cell478 U3.out HU3.out 0 (.slice (some ⟨G3, 0, none⟩) (x.1.length + 1) C3)) ((Below.refl _ _).alloc (Nat.le_refl _) _); have NX4 : Hid (((w4.setCell ⟨w3.heap.size, 0, none⟩ (.slice (some ⟨G3, 0, none⟩) (x.1.length + 1) C3)).alloc (.cells #[.int .i64 fr] 3)).heap[w3.heap.size]? = some (.cells #[(.slice (some ⟨G3, 0, none⟩) (x.1.length + 1) C3), .slice g2 n2 c2] 26 (0, 0))) := (by show _ = _; rw [Below.heap_alloc _ _ _ (by rw [World.size_setCell]; exact lt_of_block405 NX3), heap_setCell_same _ _ 0 _ _ _ NX3]; rfl); clear hown3 hgrow3 hnil3 NX3)
        | (at_builtin; refine wpList_append_own _ rfl _ _ 24 rfl V2.heap.size 3 i4 (.int .i64 0) 1 8 Tryd.underlying24 hi4 hz4 hs4 hb4 rfl (by decide) (.slice g2 n2 c2) x.2.length (intsV x.2) rfl W3.out ⟨w4.heap.size, 0, none⟩ 1 1 [.int .i64 fr] rfl rfl (news_cells NK2.out) (one_int fr) (by unfold maxLen; omega) (by omega) (KS3.out.alloc KS3.out.size _).size ?_; intro U_4 w5 hown4 hgrow4 hnil4; obtain ⟨G4, C4, rfl, -, -⟩ := World.ownsRow.form hown4 (Nat.succ_pos _); clear q0 q1 q2; have U4 : Hid (w5.ownsRow V2.heap.size 3 1 (.slice (some ⟨G4, 0, none⟩) (x.2.length + 1) C4) (x.2.length + 1) (intsV (x.2 ++ [fr]))) := (by rw [ints_long] at hown4; exact hown4); have Y4 : Hid (w5.ownsRow V2.heap.size 9 1 (.slice (some ⟨G3, 0, none⟩) (x.1.length + 1) C3) (x.1.length + 1) (texts (x.1 ++ [key]))) := owns_grown Y3.out W3.out (by decide) hgrow4; have KT4 : Hid (Below V2.heap.size V2 w5) := (KS3.out.alloc KS3.out.size _).trans (below_of_grown hgrow4 (fun z hz => (World.ownsRow.lt W3.out z hz).1) (KS3.out.alloc KS3.out.size _).size); have X5 : Hid (Below W.heap.size W w5) := XV2.out.trans (KT4.out.mono XV2.out.size); obtain ⟨-, -, ⟨d0, d1⟩, fz⟩ := HCELL.out w5 X5.out; have f0 := fz 0; have f1 := fz 1; have n51 : w3.heap.size ≠ w.heap.size + 1 + 1 := (by have := HZ3.out; omega); have n52 : w.heap.size + 1 + 1 ≠ w3.heap.size := (by have := HZ3.out; omega); clear fz b41; have NX5 : w5.heap[w3.heap.size]? = some (.cells #[(.slice (some ⟨G3, 0, none⟩) (x.1.length + 1) C3), .slice g2 n2 c2] 26 (0, 0)) := (hgrow4.block w3.heap.size (lt_of_block405 NX4.out) (fun e => HN2'.out _ e.symm rfl)).trans NX4.out; have p0 : w5.cell? ⟨w3.heap.size, 0, none⟩ = some (.slice (some ⟨G3, 0, none⟩) (x.1.length + 1) C3) := (by rw [cell_of_row _ _ 0 _ _ _ NX5]; rfl); have p1 : w5.cell? ⟨w3.heap.size, 1, none⟩ = some (.slice g2 n2 c2) := (by rw [cell_of_row _ _ 1 _ _ _ NX5]; rfl); have p2 : w5.frozen? ⟨w3.heap.size, 1, none⟩ = false := frozen_of_row _ _ 1 _ _ NX5; have HU4 : Hid (∀ g, (.slice (some ⟨G4, 0, none⟩) (x.2.length + 1) C4 : Value).ownBlock = some g → g ≠ w3.heap.size) := owns_ne478 U4.out NX5 (by decide); have HU5 : Hid (∀ g, (.slice (some ⟨G3, 0, none⟩) (x.1.length + 1) C3 : Value).ownBlock = some g → g ≠ w3.heap.size) := owns_ne478 Y4.out NX5 (by decide); clear hown4 hgrow4 hnil4 NX5))
      have HBW : Hid (Below w.heap.size w w5) := HBV2.out.trans (KT4.out.mono HBV2.out.size)
      refine bodyPost_ret (v := .tuple #[.agg #[.slice (some ⟨G3, 0, none⟩) (x.1.length + 1) C3, .slice (some ⟨G4, 0, none⟩) (x.2.length + 1) C4], .bool true]) (by simp [results, Tryd.results7, go_sem, d0, d1, World.cell?_setCell_same', World.cell?_setCell_other]) rfl ⟨_, by rw [HMM.1], ?_, ?_⟩
      · rw [HMM.2]
        have hlo : w.heap.size + 1 + 1 < V2.heap.size := Nat.lt_of_lt_of_le hz9 XV2.out.size
        exact (ring_of_rows (textsRow_of_owns (n := x.1.length + 1) (owns_low476 (owns_low476 (owns_cell478 Y4.out HU5.out 1 _) hlo _ _) hlo _ _) (by simp) (fit_long (good_fit HG.out) HK.out)) (intsRow_of_owns (n := x.2.length + 1) (owns_low476 (owns_low476 (owns_cell478 U4.out HU4.out 1 _) hlo _ _) hlo _ _) (by simp))).weak480 (by omega) (Nat.le_refl _)
      · exact ((HBW.out.setCell (p := ⟨w3.heap.size, 1, none⟩) (by have := HZ3.out; show w.heap.size ≤ w3.heap.size; omega) _).setCell (p := ⟨w.heap.size + 1 + 1, 0, none⟩) (by show w.heap.size ≤ w.heap.size + 1 + 1; omega) _).setCell (p := ⟨w.heap.size + 1 + 1, 1, none⟩) (by show w.heap.size ≤ w.heap.size + 1 + 1; omega) _
    · have HMM : Hid (rtkB x (key, fr, sl) = false ∧ rtkT x (key, fr, sl) = x) := by
        show _ ∧ _
        cases B with
        | false => exact HN2.out rfl
        | true => exact HN3.out fun h => hyes ⟨rfl, h⟩
      have k1 : V3.cell? ⟨w3.heap.size, 1, none⟩ = some (.slice g2 n2 c2) := by rw [cell_of_row _ _ 1 _ _ _ NV3.out]; rfl
      have f0 := fz 0
      have f1 := fz 1
      clear fz
      have hlo : w.heap.size + 1 + 1 < V2.heap.size := Nat.lt_of_lt_of_le hz9 XV2.out.size
      have HFIN : Hid (RingOwn w.heap.size ((V3.setCell ⟨w.heap.size + 1 + 1, 0, none⟩ (.slice g1 n1 c1)).setCell ⟨w.heap.size + 1 + 1, 1, none⟩ (.slice g2 n2 c2)).heap.size ((V3.setCell ⟨w.heap.size + 1 + 1, 0, none⟩ (.slice g1 n1 c1)).setCell ⟨w.heap.size + 1 + 1, 1, none⟩ (.slice g2 n2 c2)) (.agg #[.slice g1 n1 c1, .slice g2 n2 c2]) x) :=
        (ring_of_rows (ks := x.1) (ns := x.2) (textsRow_of_owns (n := x.1.length) (owns_low476 (owns_low476 P1.out hlo _ _) hlo _ _) rfl (good_fit HG.out)) (intsRow_of_owns (n := x.2.length) (owns_low476 (owns_low476 P2.out hlo _ _) hlo _ _) rfl)).weak480 (by omega) (Nat.le_refl _)
      cases B with
      | false =>
        go_wp2_with (refine wpList_store_row rfl 26 _ _ rfl w3.heap.size #[.slice g1 n1 c1, .slice g2 n2 c2] rfl rfl 26 _ NX.out HS2.out rfl (by simp [Value.oneCell']) ?_; rw [hV3])
        refine bodyPost_ret (v := .tuple #[.agg #[.slice g1 n1 c1, .slice g2 n2 c2], .bool false]) (by simp [results, Tryd.results7, go_sem, d0, d1, World.cell?_setCell_same', World.cell?_setCell_other]) rfl ⟨_, by rw [HMM.out.1], by rw [HMM.out.2]; exact HFIN.out, ?_⟩
        exact (HBV3.out.setCell (p := ⟨w.heap.size + 1 + 1, 0, none⟩) (by show w.heap.size ≤ w.heap.size + 1 + 1; omega) _).setCell (p := ⟨w.heap.size + 1 + 1, 1, none⟩) (by show w.heap.size ≤ w.heap.size + 1 + 1; omega) _
      | true =>
        have hS1 : ts ≠ sl := fun h => hyes ⟨rfl, h⟩
        rw [decide_eq_false hS1] at hq
        go_wp2_with (refine wpList_store_row rfl 26 _ _ rfl w3.heap.size #[.slice g1 n1 c1, .slice g2 n2 c2] rfl rfl 26 _ NX.out HS2.out rfl (by simp [Value.oneCell']) ?_; rw [hV3])
        refine bodyPost_ret (v := .tuple #[.agg #[.slice g1 n1 c1, .slice g2 n2 c2], .bool false]) (by simp [results, Tryd.results7, go_sem, d0, d1, World.cell?_setCell_same', World.cell?_setCell_other]) rfl ⟨_, by rw [HMM.out.1], by rw [HMM.out.2]; exact HFIN.out, ?_⟩
        exact (HBV3.out.setCell (p := ⟨w.heap.size + 1 + 1, 0, none⟩) (by show w.heap.size ≤ w.heap.size + 1 + 1; omega) _).setCell (p := ⟨w.heap.size + 1 + 1, 1, none⟩) (by show w.heap.size ≤ w.heap.size + 1 + 1; omega) _
theorem specRingTake_any (w : World) (v : Value) (x : RingM) (key : ByteArray) (fr : Int) (sl : ByteArray) (h : RingAt w v x) (hk : key.size ≤ maxLen) :
    Calls Tryd.prog 7 #[v, .agg #[.string key, .int .i64 fr, .string sl]] w fun e w' => ∃ v', e = .returned (.tuple #[v', .bool (rtkB x (key, fr, sl))]) ∧ RingAt w' v' (rtkT x (key, fr, sl)) ∧ Below w.heap.size w w' := by
  refine (specRingTake_own w v x key fr sl h hk).mono ?_
  rintro e w' ⟨v', h1, h2, h3⟩
  exact ⟨v', h1, h2.at, h3⟩
end Go.Proofs.YtdjpeickokoclaaDoor
/-
  Whether a ring takes a turn: (*impl.Turn).check.
-/
namespace Go.Proofs.YtdjpeickokoclaaDoor
open Go.RowKit
set_option linter.unusedVariables false
set_option maxRecDepth 100000 in
set_option maxHeartbeats 8000000 in
theorem implCheck_any (w : World) (p : Nat) (v : Value) (x : RingM) (key : ByteArray) (fr : Int) (sl : ByteArray) (h : RingAt w v x) (hok : ringOk x = true) (hk : key.size ≤ 1100000) (h0 : -9223372036854775808 ≤ fr) (h1 : fr ≤ 9223372036854775807) (hp : w.heap[p]? = some (.cells #[.string key, .int .i64 fr, .string sl] 28 (0, 0))) (hP : powTab w) (hR : roundTab w) (hF : firstTab w) :
    Calls Tryd.prog 43 #[.pointer (some ⟨p, 0, none⟩), v] w fun e w' => (rtkB x (key, fr, sl) = true → e = .returned .nilIface) ∧ (rtkB x (key, fr, sl) = false → ∃ T, e = .returned (.iface 93 T)) ∧ Below w.heap.size w w' := by
  obtain ⟨a, l, cap, a', l', cap', rfl⟩ := h.form2
  have HR : Hid (RingAt w (.agg #[.slice a l cap, .slice a' l' cap']) x) := h
  have HTP : Hid (powTab w) := hP
  have HTR : Hid (roundTab w) := hR
  have HTF : Hid (firstTab w) := hF
  have HK : Hid (key.size ≤ maxLen) := by show _ ≤ _; unfold maxLen; omega
  have HT0 : Hid (∀ w, powTab w → Calls Tryd.prog 36 #[.string key, .int .i64 fr] w fun e w' => e = .returned (.string (turnB key fr)) ∧ Below w.heap.size w w') := fun w ht => implTurnText_any w key fr hk h0 h1 ht
  have HS3 : Hid ((Tryd.prog.info? 28).map (·.size) = some 3) := info_turn478
  obtain ⟨⟨tk, tf, ts⟩, hT⟩ : ∃ t, tofT x key fr = t := ⟨_, rfl⟩
  obtain ⟨B, hB⟩ : ∃ b, tofB x key fr = b := ⟨_, rfl⟩
  have HIM : Hid (∀ (w : World) (u0 : Value), RingAt w u0 x → powTab w → roundTab w → firstTab w → Calls Tryd.prog 14 #[u0, .string key, .int .i64 fr] w fun e w' => e = .returned (.tuple #[.agg #[.string tk, .int .i64 tf, .string ts], .bool B]) ∧ Below w.heap.size w w') := fun w u0 g0 q0 q1 q2 => by
    have := implTurnOf_any w u0 x key fr g0 HK.out q0 q1 q2
    rw [hT, hB] at this
    exact this
  have HN2 : Hid (B = false → rtkB x (key, fr, sl) = false) := fun h => (rtk_no2 (t := (key, fr, sl)) hok (hB.trans h)).1
  have HN3 : Hid (ts ≠ sl → rtkB x (key, fr, sl) = false) := fun h => (rtk_no3 (t := (key, fr, sl)) hok (by show (tofT x key fr).2.2 ≠ sl; rw [hT]; exact h)).1
  have HYES : Hid (B = true → ts = sl → rtkB x (key, fr, sl) = true) := fun h h2 => (rtk_yes (t := (key, fr, sl)) hok (hB.trans h) (by show (tofT x key fr).2.2 = sl; rw [hT]; exact h2)).1
  have HTK : Hid (B = true → tk = key ∧ tf = fr) := fun h => by
    have h2 : tofT x key fr = (key, fr, sealT (lastK x) (turnB key fr)) := by unfold tofT; rw [hB, h]; rfl
    rw [hT] at h2
    cases h2
    exact ⟨rfl, rfl⟩
  obtain ⟨W, hW⟩ : ∃ W, w.alloc (.cells #[.slice a l cap, .slice a' l' cap'] 26) = W := ⟨_, rfl⟩
  have N0 : W.heap[w.heap.size]? = some (.cells #[.slice a l cap, .slice a' l' cap'] 26 (0, 0)) := by rw [← hW]; exact heap_alloc_last w _
  have HB0 : Hid (Below w.heap.size w W) := by show Below _ _ _; rw [← hW]; exact (Below.refl _ _).alloc (Nat.le_refl _) _
  have HW : Hid (w.alloc (.cells #[.slice a l cap, .slice a' l' cap'] 26) = W) := hW
  have hzp : p < w.heap.size := lt_of_block405 hp
  have hzW : w.heap.size < W.heap.size := (Array.getElem?_eq_some_iff.1 N0).1
  have HCELL : Hid (∀ V, Below W.heap.size W V → (V.cell? ⟨w.heap.size, 0, none⟩ = some (.slice a l cap) ∧ V.cell? ⟨w.heap.size, 1, none⟩ = some (.slice a' l' cap')) ∧ (V.cell? ⟨p, 0, none⟩ = some (.string key) ∧ V.cell? ⟨p, 1, none⟩ = some (.int .i64 fr) ∧ V.cell? ⟨p, 2, none⟩ = some (.string sl))) := fun V hV => by
    have e0 : V.heap[w.heap.size]? = _ := (hV.block _ hzW).trans N0
    have e1 : V.heap[p]? = _ := ((hV.block _ (by omega)).trans (HB0.out.block _ hzp)).trans hp
    exact ⟨⟨by rw [cell_of_row _ _ 0 _ _ _ e0]; rfl, by rw [cell_of_row _ _ 1 _ _ _ e0]; rfl⟩, ⟨by rw [cell_of_row _ _ 0 _ _ _ e1]; rfl, by rw [cell_of_row _ _ 1 _ _ _ e1]; rfl, by rw [cell_of_row _ _ 2 _ _ _ e1]; rfl⟩⟩
  obtain ⟨⟨s0, s1⟩, ⟨s2, s3, s4⟩⟩ := HCELL.out W (Below.refl _ _)
  clear h hok hk h0 h1 hp hP hR hF hT hB hW N0
  go_enter Tryd.func43, Tryd.ntmps43
  go_wp2_with fail
  try rw [HW.out]
  refine wp_region_held_drew (S := (fun w' => w'.cell? ⟨w.heap.size, 0, none⟩ = some (.slice a l cap) ∧ w'.cell? ⟨w.heap.size, 1, none⟩ = some (.slice a' l' cap') ∧ w'.cell? ⟨p, 0, none⟩ = some (.string key) ∧ w'.cell? ⟨p, 1, none⟩ = some (.int .i64 fr) ∧ w'.cell? ⟨p, 2, none⟩ = some (.string sl))) (by kernel_rfl) ?_ (fun hHeld => ?_)
  · exact ⟨s0, s1, s2, s3, s4⟩
  refine wpAnyH_takeD (i := 0) (d := 8) (v := .agg #[.slice a l cap, .slice a' l' cap']) rfl (by kernel_rfl) (by kernel_rfl) (by kernel_rfl) (fun _ _ _ h => h) (Or.inl ⟨by rfl, by intro w hSw; (try dsimp only at hSw); go_simp⟩) (by assumption) rfl ?_
  simp only [Act.put, List.setIfInBounds_toArray, List.set_cons_zero, List.set_cons_succ]
  refine wpAnyH_takeD (i := 1) (d := 9) (v := .pointer (some ⟨p, 0, none⟩)) rfl (by kernel_rfl) (by kernel_rfl) (by kernel_rfl) (fun _ _ _ h => h) (Or.inl ⟨by rfl, by intro w hSw; (try dsimp only at hSw); go_simp⟩) (by assumption) rfl ?_
  simp only [Act.put, List.setIfInBounds_toArray, List.set_cons_zero, List.set_cons_succ]
  refine wpAnyH_takeD (i := 2) (d := 10) (v := .pointer (some ⟨p, 0, none⟩)) rfl (by kernel_rfl) (by kernel_rfl) (by kernel_rfl) (fun _ _ _ h => h) (Or.inl ⟨by rfl, by intro w hSw; (try dsimp only at hSw); go_simp⟩) (by assumption) rfl ?_
  simp only [Act.put, List.setIfInBounds_toArray, List.set_cons_zero, List.set_cons_succ]
  refine wpAnyH_takeD (i := 3) (d := 11) (v := .pointer (some ⟨p, 0, none⟩)) rfl (by kernel_rfl) (by kernel_rfl) (by kernel_rfl) (fun _ _ _ h => h) (Or.inl ⟨by rfl, by intro w hSw; (try dsimp only at hSw); go_simp⟩) (by assumption) rfl ?_
  simp only [Act.put, List.setIfInBounds_toArray, List.set_cons_zero, List.set_cons_succ]
  refine wpAnyH_takeD (i := 4) (d := 12) (v := .string key) rfl (by kernel_rfl) (by kernel_rfl) (by kernel_rfl) (fun _ _ _ h => h) (Or.inl ⟨by rfl, by intro w hSw; (try dsimp only at hSw); go_simp⟩) (by assumption) rfl ?_
  simp only [Act.put, List.setIfInBounds_toArray, List.set_cons_zero, List.set_cons_succ]
  refine wpAnyH_takeD (i := 5) (d := 13) (v := .pointer (some ⟨p, 0, none⟩)) rfl (by kernel_rfl) (by kernel_rfl) (by kernel_rfl) (fun _ _ _ h => h) (Or.inl ⟨by rfl, by intro w hSw; (try dsimp only at hSw); go_simp⟩) (by assumption) rfl ?_
  simp only [Act.put, List.setIfInBounds_toArray, List.set_cons_zero, List.set_cons_succ]
  refine wpAnyH_takeD (i := 6) (d := 14) (v := .pointer (some ⟨p, 0, none⟩)) rfl (by kernel_rfl) (by kernel_rfl) (by kernel_rfl) (fun _ _ _ h => h) (Or.inl ⟨by rfl, by intro w hSw; (try dsimp only at hSw); go_simp⟩) (by assumption) rfl ?_
  simp only [Act.put, List.setIfInBounds_toArray, List.set_cons_zero, List.set_cons_succ]
  refine wpAnyH_takeD (i := 7) (d := 15) (v := .pointer (some ⟨p, 1, none⟩)) rfl (by kernel_rfl) (by kernel_rfl) (by kernel_rfl) (fun _ _ _ h => h) (Or.inl ⟨by rfl, by intro w hSw; (try dsimp only at hSw); go_simp⟩) (by assumption) rfl ?_
  simp only [Act.put, List.setIfInBounds_toArray, List.set_cons_zero, List.set_cons_succ]
  refine wpAnyH_takeD (i := 8) (d := 16) (v := .int .i64 fr) rfl (by kernel_rfl) (by kernel_rfl) (by kernel_rfl) (fun _ _ _ h => h) (Or.inl ⟨by rfl, by intro w hSw; (try dsimp only at hSw); go_simp⟩) (by assumption) rfl ?_
  simp only [Act.put, List.setIfInBounds_toArray, List.set_cons_zero, List.set_cons_succ]
  obtain ⟨W0, hW0⟩ : ∃ X, World.drew W = X := ⟨_, rfl⟩
  have X0 : Hid (Below W.heap.size W W0) := by show Below _ _ _; rw [← hW0]; exact (Below.refl _ _).drew
  rw [hW0]
  clear hW0 s0 s1 s2 s3 s4
  refine wpAnyH_ready (rs := [9, 13]) (by kernel_rfl) (by simp) ?_
  refine AllReadyH.cons rfl (fun K hK => ?_) (AllReadyH.cons rfl (fun K hK => ?_) AllReadyH.nil)
  · skip
    go_simp
    refine (HIM.out _ _ (HR.out.below (HB0.out.trans (X0.out.mono HB0.out.size))) (HTP.out.below (HB0.out.trans (X0.out.mono HB0.out.size))) (HTR.out.below (HB0.out.trans (X0.out.mono HB0.out.size))) (HTF.out.below (HB0.out.trans (X0.out.mono HB0.out.size)))).mono ?_
    rintro e w1 ⟨rfl, hb1⟩
    have Xw1 : Hid (Below W.heap.size W w1) := X0.out.trans (hb1.mono X0.out.size)
    clear hb1
    obtain ⟨⟨t0, t1⟩, ⟨t2, t3, t4⟩⟩ := HCELL.out w1 Xw1.out
    refine hK.out _ _ ?_ (fun hHeld => ?_)
    · exact ⟨t0, t1, t2, t3, t4⟩
    clear hK K t0 t1 t2 t3 t4
    try simp only [Act.put, List.setIfInBounds_toArray, List.set_cons_zero, List.set_cons_succ]
    refine wpAnyH_takeD (i := 10) (d := 7) (v := .tuple #[.agg #[.string tk, .int .i64 tf, .string ts], .bool B]) rfl (by kernel_rfl) (by kernel_rfl) (by kernel_rfl) (fun _ _ _ h => h) (Or.inl ⟨by rfl, by intro w hSw; (try dsimp only at hSw); go_simp⟩) (by assumption) rfl ?_
    simp only [Act.put, List.setIfInBounds_toArray, List.set_cons_zero, List.set_cons_succ]
    refine wpAnyH_takeD (i := 11) (d := 18) (v := .agg #[.string tk, .int .i64 tf, .string ts]) rfl (by kernel_rfl) (by kernel_rfl) (by kernel_rfl) (fun _ _ _ h => h) (Or.inl ⟨by rfl, by intro w hSw; (try dsimp only at hSw); go_simp⟩) (by assumption) rfl ?_
    simp only [Act.put, List.setIfInBounds_toArray, List.set_cons_zero, List.set_cons_succ]
    refine wpAnyH_takeD (i := 12) (d := 19) (v := .bool B) rfl (by kernel_rfl) (by kernel_rfl) (by kernel_rfl) (fun _ _ _ h => h) (Or.inl ⟨by rfl, by intro w hSw; (try dsimp only at hSw); go_simp⟩) (by assumption) rfl ?_
    simp only [Act.put, List.setIfInBounds_toArray, List.set_cons_zero, List.set_cons_succ]
    refine wpAnyH_ready (rs := [13]) (by kernel_rfl) (by simp) ?_
    refine AllReadyH.cons rfl (fun K hK => ?_) AllReadyH.nil
    go_simp
    have NT : Hid ((w1.alloc (.cells #[.string ⟨#[]⟩, .int .i64 0, .string ⟨#[]⟩] 28)).heap[w1.heap.size]? = some (.cells #[.string ⟨#[]⟩, .int .i64 0, .string ⟨#[]⟩] 28 (0, 0))) := heap_alloc_last _ _
    obtain ⟨U1, hU1⟩ : ∃ X, w1.alloc (.cells #[.string ⟨#[]⟩, .int .i64 0, .string ⟨#[]⟩] 28) = X := ⟨_, rfl⟩
    have XU1 : Hid (Below W.heap.size W U1) := by show Below _ _ _; rw [← hU1]; exact Xw1.out.alloc Xw1.out.size _
    rw [hU1] at NT
    have NU1 : Hid (U1.heap[w1.heap.size]? = some (.cells #[.string ⟨#[]⟩, .int .i64 0, .string ⟨#[]⟩] 28 (0, 0))) := NT.out
    rw [hU1]
    obtain ⟨⟨t0, t1⟩, ⟨t2, t3, t4⟩⟩ := HCELL.out U1 XU1.out
    refine hK.out _ _ ?_ (fun hHeld => ?_)
    · exact ⟨t0, t1, t2, t3, t4⟩
    clear hK K t0 t1 t2 t3 t4
    try simp only [Act.put, List.setIfInBounds_toArray, List.set_cons_zero, List.set_cons_succ]
    refine wpAnyH_ready (rs := [14]) (by kernel_rfl) (by simp) ?_
    refine AllReadyH.cons rfl (fun K hK => ?_) AllReadyH.nil
    refine step_store_row rfl 28 (.tmp 5) (.tmp 18) rfl w1.heap.size #[.string tk, .int .i64 tf, .string ts] rfl rfl 28 _ NU1.out HS3.out rfl (by simp [Value.oneCell']) rfl ?_
    obtain ⟨V1, hV1⟩ : ∃ X, U1.setRow w1.heap.size #[.string tk, .int .i64 tf, .string ts] = X := ⟨_, rfl⟩
    have NV : Hid (V1.heap[w1.heap.size]? = some (.cells #[.string tk, .int .i64 tf, .string ts] 28 (0, 0))) := by show _ = _; rw [← hV1]; exact setRow_heap _ _ _ _ _ _ NU1.out
    have XV1 : Hid (Below W.heap.size W V1) := by show Below _ _ _; rw [← hV1]; exact below_setRow XU1.out Xw1.out.size _
    rw [hV1]
    obtain ⟨⟨t0, t1⟩, ⟨t2, t3, t4⟩⟩ := HCELL.out V1 XV1.out
    refine hK.out _ _ ?_ (fun hHeld => ?_)
    · exact ⟨t0, t1, t2, t3, t4⟩
    clear hK K t0 t1 t2 t3 t4
    try simp only [Act.put, List.setIfInBounds_toArray, List.set_cons_zero, List.set_cons_succ]
    refine wpAnyH_takeD (i := 15) (d := 6) (v := .bool B) rfl (by kernel_rfl) (by kernel_rfl) (by kernel_rfl) (fun _ _ _ h => h) (Or.inl ⟨by rfl, by intro w hSw; (try dsimp only at hSw); go_simp⟩) (by assumption) rfl ?_
    simp only [Act.put, List.setIfInBounds_toArray, List.set_cons_zero, List.set_cons_succ]
    refine wpAnyH_done (by kernel_rfl) ?_ _
    obtain ⟨⟨t0, t1⟩, ⟨t2, t3, t4⟩⟩ := HCELL.out V1 XV1.out
    have HBV : Hid (Below w.heap.size w V1) := HB0.out.trans (XV1.out.mono HB0.out.size)
    have r0 : V1.cell? ⟨w1.heap.size, 0, none⟩ = some (.string tk) := by rw [cell_of_row _ _ 0 _ _ _ NV.out]; rfl
    have r1 : V1.cell? ⟨w1.heap.size, 1, none⟩ = some (.int .i64 tf) := by rw [cell_of_row _ _ 1 _ _ _ NV.out]; rfl
    have r2 : V1.cell? ⟨w1.heap.size, 2, none⟩ = some (.string ts) := by rw [cell_of_row _ _ 2 _ _ _ NV.out]; rfl
    have hq : (ts.toList == sl.toList) = decide (ts = sl) := eqL480 _ _
    cases B with
    | false =>
      have HNO : Hid (rtkB x (key, fr, sl) = false) := HN2.out rfl
      go_wp2_with fail
      refine wp_region_held_drew (S := (fun w' => w'.cell? ⟨w1.heap.size, 0, none⟩ = some (.string tk) ∧ w'.cell? ⟨w1.heap.size, 1, none⟩ = some (.int .i64 tf) ∧ w'.cell? ⟨w1.heap.size, 2, none⟩ = some (.string ts) ∧ w'.cell? ⟨w.heap.size, 0, none⟩ = some (.slice a l cap) ∧ w'.cell? ⟨w.heap.size, 1, none⟩ = some (.slice a' l' cap') ∧ w'.cell? ⟨p, 0, none⟩ = some (.string key) ∧ w'.cell? ⟨p, 1, none⟩ = some (.int .i64 fr) ∧ w'.cell? ⟨p, 2, none⟩ = some (.string sl))) (by kernel_rfl) ?_ (fun hHeld => ?_)
      · exact ⟨r0, r1, r2, t0, t1, t2, t3, t4⟩
      refine wpAnyH_takeD (i := 0) (d := 20) (v := .bool false) rfl (by kernel_rfl) (by kernel_rfl) (by kernel_rfl) (fun _ _ _ h => h) (Or.inl ⟨by rfl, by intro w hSw; (try dsimp only at hSw); go_simp⟩) (by assumption) rfl ?_
      simp only [Act.put, List.setIfInBounds_toArray, List.set_cons_zero, List.set_cons_succ]
      refine wpAnyH_takeD (i := 1) (d := 21) (v := .bool true) rfl (by kernel_rfl) (by kernel_rfl) (by kernel_rfl) (fun _ _ _ h => h) (Or.inl ⟨by rfl, by intro w hSw; (try dsimp only at hSw); go_simp⟩) (by assumption) rfl ?_
      simp only [Act.put, List.setIfInBounds_toArray, List.set_cons_zero, List.set_cons_succ]
      refine wpAnyH_takeD (i := 2) (d := 22) (v := .bool true) rfl (by kernel_rfl) (by kernel_rfl) (by kernel_rfl) (fun _ _ _ h => h) (Or.inl ⟨by rfl, by intro w hSw; (try dsimp only at hSw); go_simp⟩) (by assumption) rfl ?_
      simp only [Act.put, List.setIfInBounds_toArray, List.set_cons_zero, List.set_cons_succ]
      refine wpAnyH_takeD (i := 3) (d := 23) (v := undef) rfl (by kernel_rfl) (by kernel_rfl) (by kernel_rfl) (fun _ _ _ h => h) (Or.inr ⟨by rfl, rfl⟩) (by assumption) rfl ?_
      simp only [Act.put, List.setIfInBounds_toArray, List.set_cons_zero, List.set_cons_succ]
      refine wpAnyH_takeD (i := 4) (d := 24) (v := undef) rfl (by kernel_rfl) (by kernel_rfl) (by kernel_rfl) (fun _ _ _ h => h) (Or.inr ⟨by rfl, rfl⟩) (by assumption) rfl ?_
      simp only [Act.put, List.setIfInBounds_toArray, List.set_cons_zero, List.set_cons_succ]
      refine wpAnyH_takeD (i := 5) (d := 25) (v := undef) rfl (by kernel_rfl) (by kernel_rfl) (by kernel_rfl) (fun _ _ _ h => h) (Or.inr ⟨by rfl, rfl⟩) (by assumption) rfl ?_
      simp only [Act.put, List.setIfInBounds_toArray, List.set_cons_zero, List.set_cons_succ]
      refine wpAnyH_takeD (i := 6) (d := 26) (v := undef) rfl (by kernel_rfl) (by kernel_rfl) (by kernel_rfl) (fun _ _ _ h => h) (Or.inr ⟨by rfl, rfl⟩) (by assumption) rfl ?_
      simp only [Act.put, List.setIfInBounds_toArray, List.set_cons_zero, List.set_cons_succ]
      refine wpAnyH_takeD (i := 7) (d := 27) (v := undef) rfl (by kernel_rfl) (by kernel_rfl) (by kernel_rfl) (fun _ _ _ h => h) (Or.inr ⟨by rfl, rfl⟩) (by assumption) rfl ?_
      simp only [Act.put, List.setIfInBounds_toArray, List.set_cons_zero, List.set_cons_succ]
      refine wpAnyH_takeD (i := 8) (d := 28) (v := .bool true) rfl (by kernel_rfl) (by kernel_rfl) (by kernel_rfl) (fun _ _ _ h => h) (Or.inl ⟨by rfl, by intro w hSw; (try dsimp only at hSw); go_simp⟩) (by assumption) rfl ?_
      simp only [Act.put, List.setIfInBounds_toArray, List.set_cons_zero, List.set_cons_succ]
      refine wpAnyH_done (by kernel_rfl) ?_ _
      go_wp2_with fail
      refine wp_region_held_drew (S := (fun w' => w'.cell? ⟨w.heap.size, 0, none⟩ = some (.slice a l cap) ∧ w'.cell? ⟨w.heap.size, 1, none⟩ = some (.slice a' l' cap') ∧ w'.cell? ⟨p, 0, none⟩ = some (.string key) ∧ w'.cell? ⟨p, 1, none⟩ = some (.int .i64 fr) ∧ w'.cell? ⟨p, 2, none⟩ = some (.string sl))) (by kernel_rfl) ?_ (fun hHeld => ?_)
      · exact ⟨t0, t1, t2, t3, t4⟩
      refine wpAnyH_takeD (i := 0) (d := 29) (v := .pointer (some ⟨p, 0, none⟩)) rfl (by kernel_rfl) (by kernel_rfl) (by kernel_rfl) (fun _ _ _ h => h) (Or.inl ⟨by rfl, by intro w hSw; (try dsimp only at hSw); go_simp⟩) (by assumption) rfl ?_
      simp only [Act.put, List.setIfInBounds_toArray, List.set_cons_zero, List.set_cons_succ]
      refine wpAnyH_takeD (i := 1) (d := 30) (v := .pointer (some ⟨p, 0, none⟩)) rfl (by kernel_rfl) (by kernel_rfl) (by kernel_rfl) (fun _ _ _ h => h) (Or.inl ⟨by rfl, by intro w hSw; (try dsimp only at hSw); go_simp⟩) (by assumption) rfl ?_
      simp only [Act.put, List.setIfInBounds_toArray, List.set_cons_zero, List.set_cons_succ]
      refine wpAnyH_takeD (i := 2) (d := 31) (v := .pointer (some ⟨p, 0, none⟩)) rfl (by kernel_rfl) (by kernel_rfl) (by kernel_rfl) (fun _ _ _ h => h) (Or.inl ⟨by rfl, by intro w hSw; (try dsimp only at hSw); go_simp⟩) (by assumption) rfl ?_
      simp only [Act.put, List.setIfInBounds_toArray, List.set_cons_zero, List.set_cons_succ]
      refine wpAnyH_takeD (i := 3) (d := 32) (v := .string key) rfl (by kernel_rfl) (by kernel_rfl) (by kernel_rfl) (fun _ _ _ h => h) (Or.inl ⟨by rfl, by intro w hSw; (try dsimp only at hSw); go_simp⟩) (by assumption) rfl ?_
      simp only [Act.put, List.setIfInBounds_toArray, List.set_cons_zero, List.set_cons_succ]
      refine wpAnyH_takeD (i := 4) (d := 33) (v := .pointer (some ⟨p, 0, none⟩)) rfl (by kernel_rfl) (by kernel_rfl) (by kernel_rfl) (fun _ _ _ h => h) (Or.inl ⟨by rfl, by intro w hSw; (try dsimp only at hSw); go_simp⟩) (by assumption) rfl ?_
      simp only [Act.put, List.setIfInBounds_toArray, List.set_cons_zero, List.set_cons_succ]
      refine wpAnyH_takeD (i := 5) (d := 34) (v := .pointer (some ⟨p, 0, none⟩)) rfl (by kernel_rfl) (by kernel_rfl) (by kernel_rfl) (fun _ _ _ h => h) (Or.inl ⟨by rfl, by intro w hSw; (try dsimp only at hSw); go_simp⟩) (by assumption) rfl ?_
      simp only [Act.put, List.setIfInBounds_toArray, List.set_cons_zero, List.set_cons_succ]
      refine wpAnyH_takeD (i := 6) (d := 35) (v := .pointer (some ⟨p, 1, none⟩)) rfl (by kernel_rfl) (by kernel_rfl) (by kernel_rfl) (fun _ _ _ h => h) (Or.inl ⟨by rfl, by intro w hSw; (try dsimp only at hSw); go_simp⟩) (by assumption) rfl ?_
      simp only [Act.put, List.setIfInBounds_toArray, List.set_cons_zero, List.set_cons_succ]
      refine wpAnyH_takeD (i := 7) (d := 36) (v := .int .i64 fr) rfl (by kernel_rfl) (by kernel_rfl) (by kernel_rfl) (fun _ _ _ h => h) (Or.inl ⟨by rfl, by intro w hSw; (try dsimp only at hSw); go_simp⟩) (by assumption) rfl ?_
      simp only [Act.put, List.setIfInBounds_toArray, List.set_cons_zero, List.set_cons_succ]
      refine wpAnyH_ready (rs := [8]) (by kernel_rfl) (by simp) ?_
      refine AllReadyH.cons rfl (fun K hK => ?_) AllReadyH.nil
      go_simp
      refine (HT0.out _ (HTP.out.below (by first | exact HBV.out | exact HBV.out.drew | exact HBV.out.drew.drew))).mono ?_
      rintro e w9 ⟨rfl, hb9⟩
      have X9 : Hid (Below V1.heap.size V1 w9) := by first | exact hb9 | exact (Below.refl _ _).drew.trans hb9 | exact (Below.refl _ _).drew.drew.trans hb9
      have HB9 : Hid (Below w.heap.size w w9) := HBV.out.trans (X9.out.mono HBV.out.size)
      clear hb9
      obtain ⟨⟨u0, u1⟩, ⟨u2, u3, u4⟩⟩ := HCELL.out w9 (XV1.out.trans (X9.out.mono XV1.out.size))
      refine hK.out _ _ ?_ (fun hHeld => ?_)
      · exact ⟨u0, u1, u2, u3, u4⟩
      clear hK K
      try simp only [Act.put, List.setIfInBounds_toArray, List.set_cons_zero, List.set_cons_succ]
      refine wpAnyH_takeD (i := 9) (d := 38) (v := .agg #[.string (turnB key fr)]) rfl (by kernel_rfl) (by kernel_rfl) (by kernel_rfl) (fun _ _ _ h => h) (Or.inl ⟨by rfl, by intro w hSw; (try dsimp only at hSw); go_simp⟩) (by assumption) rfl ?_
      simp only [Act.put, List.setIfInBounds_toArray, List.set_cons_zero, List.set_cons_succ]
      refine wpAnyH_takeD (i := 10) (d := 39) (v := .iface 93 (.agg #[.string (turnB key fr)])) rfl (by kernel_rfl) (by kernel_rfl) (by kernel_rfl) (fun _ _ _ h => h) (Or.inl ⟨by rfl, by intro w hSw; (try dsimp only at hSw); go_simp⟩) (by assumption) rfl ?_
      simp only [Act.put, List.setIfInBounds_toArray, List.set_cons_zero, List.set_cons_succ]
      refine wpAnyH_takeD (i := 11) (d := 4) (v := .iface 93 (.agg #[.string (turnB key fr)])) rfl (by kernel_rfl) (by kernel_rfl) (by kernel_rfl) (fun _ _ _ h => h) (Or.inl ⟨by rfl, by intro w hSw; (try dsimp only at hSw); go_simp⟩) (by assumption) rfl ?_
      simp only [Act.put, List.setIfInBounds_toArray, List.set_cons_zero, List.set_cons_succ]
      refine wpAnyH_done (by kernel_rfl) ?_ _
      go_wp2
      go_ret
      exact ⟨fun h => absurd (HNO.out.symm.trans h) (by decide), fun _ => ⟨_, rfl⟩, HB9.out⟩
    | true =>
      obtain ⟨hk1, hf1⟩ := HTK.out rfl
      subst hk1
      subst hf1
      by_cases hs : ts = sl
      · skip
        rw [decide_eq_true hs] at hq
        have HNO : Hid (rtkB x (tk, tf, sl) = true) := HYES.out rfl hs
        go_wp2_with fail
        refine wp_region_held_drew (S := (fun w' => w'.cell? ⟨w1.heap.size, 0, none⟩ = some (.string tk) ∧ w'.cell? ⟨w1.heap.size, 1, none⟩ = some (.int .i64 tf) ∧ w'.cell? ⟨w1.heap.size, 2, none⟩ = some (.string ts) ∧ w'.cell? ⟨w.heap.size, 0, none⟩ = some (.slice a l cap) ∧ w'.cell? ⟨w.heap.size, 1, none⟩ = some (.slice a' l' cap') ∧ w'.cell? ⟨p, 0, none⟩ = some (.string tk) ∧ w'.cell? ⟨p, 1, none⟩ = some (.int .i64 tf) ∧ w'.cell? ⟨p, 2, none⟩ = some (.string sl))) (by kernel_rfl) ?_ (fun hHeld => ?_)
        · exact ⟨r0, r1, r2, t0, t1, t2, t3, t4⟩
        refine wpAnyH_takeD (i := 0) (d := 20) (v := .bool true) rfl (by kernel_rfl) (by kernel_rfl) (by kernel_rfl) (fun _ _ _ h => h) (Or.inl ⟨by rfl, by intro w hSw; (try dsimp only at hSw); go_simp⟩) (by assumption) rfl ?_
        simp only [Act.put, List.setIfInBounds_toArray, List.set_cons_zero, List.set_cons_succ]
        refine wpAnyH_takeD (i := 1) (d := 21) (v := .bool false) rfl (by kernel_rfl) (by kernel_rfl) (by kernel_rfl) (fun _ _ _ h => h) (Or.inl ⟨by rfl, by intro w hSw; (try dsimp only at hSw); go_simp⟩) (by assumption) rfl ?_
        simp only [Act.put, List.setIfInBounds_toArray, List.set_cons_zero, List.set_cons_succ]
        refine wpAnyH_takeD (i := 2) (d := 22) (v := .bool false) rfl (by kernel_rfl) (by kernel_rfl) (by kernel_rfl) (fun _ _ _ h => h) (Or.inl ⟨by rfl, by intro w hSw; (try dsimp only at hSw); go_simp⟩) (by assumption) rfl ?_
        simp only [Act.put, List.setIfInBounds_toArray, List.set_cons_zero, List.set_cons_succ]
        refine wpAnyH_takeD (i := 3) (d := 23) (v := .agg #[.string tk, .int .i64 tf, .string ts]) rfl (by kernel_rfl) (by kernel_rfl) (by kernel_rfl) (fun _ _ _ h => h) (Or.inl ⟨by rfl, by intro w hSw; (try dsimp only at hSw); go_simp⟩) (by assumption) rfl ?_
        simp only [Act.put, List.setIfInBounds_toArray, List.set_cons_zero, List.set_cons_succ]
        refine wpAnyH_takeD (i := 4) (d := 24) (v := .pointer (some ⟨p, 0, none⟩)) rfl (by kernel_rfl) (by kernel_rfl) (by kernel_rfl) (fun _ _ _ h => h) (Or.inl ⟨by rfl, by intro w hSw; (try dsimp only at hSw); go_simp⟩) (by assumption) rfl ?_
        simp only [Act.put, List.setIfInBounds_toArray, List.set_cons_zero, List.set_cons_succ]
        refine wpAnyH_takeD (i := 5) (d := 25) (v := .pointer (some ⟨p, 0, none⟩)) rfl (by kernel_rfl) (by kernel_rfl) (by kernel_rfl) (fun _ _ _ h => h) (Or.inl ⟨by rfl, by intro w hSw; (try dsimp only at hSw); go_simp⟩) (by assumption) rfl ?_
        simp only [Act.put, List.setIfInBounds_toArray, List.set_cons_zero, List.set_cons_succ]
        refine wpAnyH_takeD (i := 6) (d := 26) (v := .agg #[.string tk, .int .i64 tf, .string sl]) rfl (by kernel_rfl) (by kernel_rfl) (by kernel_rfl) (fun _ _ _ h => h) (Or.inl ⟨by rfl, by intro w hSw; (try dsimp only at hSw); go_simp⟩) (by assumption) rfl ?_
        simp only [Act.put, List.setIfInBounds_toArray, List.set_cons_zero, List.set_cons_succ]
        refine wpAnyH_takeD (i := 7) (d := 27) (v := .bool false) rfl (by kernel_rfl) (by kernel_rfl) (by kernel_rfl) (fun _ _ _ h => h) (Or.inl ⟨by rfl, by intro w hSw; (try dsimp only at hSw); go_simp⟩) (by assumption) rfl ?_
        simp only [Act.put, List.setIfInBounds_toArray, List.set_cons_zero, List.set_cons_succ]
        refine wpAnyH_takeD (i := 8) (d := 28) (v := .bool false) rfl (by kernel_rfl) (by kernel_rfl) (by kernel_rfl) (fun _ _ _ h => h) (Or.inl ⟨by rfl, by intro w hSw; (try dsimp only at hSw); go_simp⟩) (by assumption) rfl ?_
        simp only [Act.put, List.setIfInBounds_toArray, List.set_cons_zero, List.set_cons_succ]
        refine wpAnyH_done (by kernel_rfl) ?_ _
        go_wp2
        go_ret
        exact ⟨fun _ => rfl, fun h => absurd (HNO.out.symm.trans h) (by decide), by first | exact HBV.out.drew | exact HBV.out.drew.drew | exact HBV.out⟩
      · skip
        rw [decide_eq_false hs] at hq
        have HNO : Hid (rtkB x (tk, tf, sl) = false) := HN3.out hs
        go_wp2_with fail
        refine wp_region_held_drew (S := (fun w' => w'.cell? ⟨w1.heap.size, 0, none⟩ = some (.string tk) ∧ w'.cell? ⟨w1.heap.size, 1, none⟩ = some (.int .i64 tf) ∧ w'.cell? ⟨w1.heap.size, 2, none⟩ = some (.string ts) ∧ w'.cell? ⟨w.heap.size, 0, none⟩ = some (.slice a l cap) ∧ w'.cell? ⟨w.heap.size, 1, none⟩ = some (.slice a' l' cap') ∧ w'.cell? ⟨p, 0, none⟩ = some (.string tk) ∧ w'.cell? ⟨p, 1, none⟩ = some (.int .i64 tf) ∧ w'.cell? ⟨p, 2, none⟩ = some (.string sl))) (by kernel_rfl) ?_ (fun hHeld => ?_)
        · exact ⟨r0, r1, r2, t0, t1, t2, t3, t4⟩
        refine wpAnyH_takeD (i := 0) (d := 20) (v := .bool true) rfl (by kernel_rfl) (by kernel_rfl) (by kernel_rfl) (fun _ _ _ h => h) (Or.inl ⟨by rfl, by intro w hSw; (try dsimp only at hSw); go_simp⟩) (by assumption) rfl ?_
        simp only [Act.put, List.setIfInBounds_toArray, List.set_cons_zero, List.set_cons_succ]
        refine wpAnyH_takeD (i := 1) (d := 21) (v := .bool false) rfl (by kernel_rfl) (by kernel_rfl) (by kernel_rfl) (fun _ _ _ h => h) (Or.inl ⟨by rfl, by intro w hSw; (try dsimp only at hSw); go_simp⟩) (by assumption) rfl ?_
        simp only [Act.put, List.setIfInBounds_toArray, List.set_cons_zero, List.set_cons_succ]
        refine wpAnyH_takeD (i := 2) (d := 22) (v := .bool false) rfl (by kernel_rfl) (by kernel_rfl) (by kernel_rfl) (fun _ _ _ h => h) (Or.inl ⟨by rfl, by intro w hSw; (try dsimp only at hSw); go_simp⟩) (by assumption) rfl ?_
        simp only [Act.put, List.setIfInBounds_toArray, List.set_cons_zero, List.set_cons_succ]
        refine wpAnyH_takeD (i := 3) (d := 23) (v := .agg #[.string tk, .int .i64 tf, .string ts]) rfl (by kernel_rfl) (by kernel_rfl) (by kernel_rfl) (fun _ _ _ h => h) (Or.inl ⟨by rfl, by intro w hSw; (try dsimp only at hSw); go_simp⟩) (by assumption) rfl ?_
        simp only [Act.put, List.setIfInBounds_toArray, List.set_cons_zero, List.set_cons_succ]
        refine wpAnyH_takeD (i := 4) (d := 24) (v := .pointer (some ⟨p, 0, none⟩)) rfl (by kernel_rfl) (by kernel_rfl) (by kernel_rfl) (fun _ _ _ h => h) (Or.inl ⟨by rfl, by intro w hSw; (try dsimp only at hSw); go_simp⟩) (by assumption) rfl ?_
        simp only [Act.put, List.setIfInBounds_toArray, List.set_cons_zero, List.set_cons_succ]
        refine wpAnyH_takeD (i := 5) (d := 25) (v := .pointer (some ⟨p, 0, none⟩)) rfl (by kernel_rfl) (by kernel_rfl) (by kernel_rfl) (fun _ _ _ h => h) (Or.inl ⟨by rfl, by intro w hSw; (try dsimp only at hSw); go_simp⟩) (by assumption) rfl ?_
        simp only [Act.put, List.setIfInBounds_toArray, List.set_cons_zero, List.set_cons_succ]
        refine wpAnyH_takeD (i := 6) (d := 26) (v := .agg #[.string tk, .int .i64 tf, .string sl]) rfl (by kernel_rfl) (by kernel_rfl) (by kernel_rfl) (fun _ _ _ h => h) (Or.inl ⟨by rfl, by intro w hSw; (try dsimp only at hSw); go_simp⟩) (by assumption) rfl ?_
        simp only [Act.put, List.setIfInBounds_toArray, List.set_cons_zero, List.set_cons_succ]
        refine wpAnyH_takeD (i := 7) (d := 27) (v := .bool true) rfl (by kernel_rfl) (by kernel_rfl) (by kernel_rfl) (fun _ _ _ h => h) (Or.inl ⟨by rfl, by intro w hSw; (try dsimp only at hSw); go_simp⟩) (by assumption) rfl ?_
        simp only [Act.put, List.setIfInBounds_toArray, List.set_cons_zero, List.set_cons_succ]
        refine wpAnyH_takeD (i := 8) (d := 28) (v := .bool true) rfl (by kernel_rfl) (by kernel_rfl) (by kernel_rfl) (fun _ _ _ h => h) (Or.inl ⟨by rfl, by intro w hSw; (try dsimp only at hSw); go_simp⟩) (by assumption) rfl ?_
        simp only [Act.put, List.setIfInBounds_toArray, List.set_cons_zero, List.set_cons_succ]
        refine wpAnyH_done (by kernel_rfl) ?_ _
        go_wp2_with fail
        refine wp_region_held_drew (S := (fun w' => w'.cell? ⟨w.heap.size, 0, none⟩ = some (.slice a l cap) ∧ w'.cell? ⟨w.heap.size, 1, none⟩ = some (.slice a' l' cap') ∧ w'.cell? ⟨p, 0, none⟩ = some (.string tk) ∧ w'.cell? ⟨p, 1, none⟩ = some (.int .i64 tf) ∧ w'.cell? ⟨p, 2, none⟩ = some (.string sl))) (by kernel_rfl) ?_ (fun hHeld => ?_)
        · exact ⟨t0, t1, t2, t3, t4⟩
        refine wpAnyH_takeD (i := 0) (d := 29) (v := .pointer (some ⟨p, 0, none⟩)) rfl (by kernel_rfl) (by kernel_rfl) (by kernel_rfl) (fun _ _ _ h => h) (Or.inl ⟨by rfl, by intro w hSw; (try dsimp only at hSw); go_simp⟩) (by assumption) rfl ?_
        simp only [Act.put, List.setIfInBounds_toArray, List.set_cons_zero, List.set_cons_succ]
        refine wpAnyH_takeD (i := 1) (d := 30) (v := .pointer (some ⟨p, 0, none⟩)) rfl (by kernel_rfl) (by kernel_rfl) (by kernel_rfl) (fun _ _ _ h => h) (Or.inl ⟨by rfl, by intro w hSw; (try dsimp only at hSw); go_simp⟩) (by assumption) rfl ?_
        simp only [Act.put, List.setIfInBounds_toArray, List.set_cons_zero, List.set_cons_succ]
        refine wpAnyH_takeD (i := 2) (d := 31) (v := .pointer (some ⟨p, 0, none⟩)) rfl (by kernel_rfl) (by kernel_rfl) (by kernel_rfl) (fun _ _ _ h => h) (Or.inl ⟨by rfl, by intro w hSw; (try dsimp only at hSw); go_simp⟩) (by assumption) rfl ?_
        simp only [Act.put, List.setIfInBounds_toArray, List.set_cons_zero, List.set_cons_succ]
        refine wpAnyH_takeD (i := 3) (d := 32) (v := .string tk) rfl (by kernel_rfl) (by kernel_rfl) (by kernel_rfl) (fun _ _ _ h => h) (Or.inl ⟨by rfl, by intro w hSw; (try dsimp only at hSw); go_simp⟩) (by assumption) rfl ?_
        simp only [Act.put, List.setIfInBounds_toArray, List.set_cons_zero, List.set_cons_succ]
        refine wpAnyH_takeD (i := 4) (d := 33) (v := .pointer (some ⟨p, 0, none⟩)) rfl (by kernel_rfl) (by kernel_rfl) (by kernel_rfl) (fun _ _ _ h => h) (Or.inl ⟨by rfl, by intro w hSw; (try dsimp only at hSw); go_simp⟩) (by assumption) rfl ?_
        simp only [Act.put, List.setIfInBounds_toArray, List.set_cons_zero, List.set_cons_succ]
        refine wpAnyH_takeD (i := 5) (d := 34) (v := .pointer (some ⟨p, 0, none⟩)) rfl (by kernel_rfl) (by kernel_rfl) (by kernel_rfl) (fun _ _ _ h => h) (Or.inl ⟨by rfl, by intro w hSw; (try dsimp only at hSw); go_simp⟩) (by assumption) rfl ?_
        simp only [Act.put, List.setIfInBounds_toArray, List.set_cons_zero, List.set_cons_succ]
        refine wpAnyH_takeD (i := 6) (d := 35) (v := .pointer (some ⟨p, 1, none⟩)) rfl (by kernel_rfl) (by kernel_rfl) (by kernel_rfl) (fun _ _ _ h => h) (Or.inl ⟨by rfl, by intro w hSw; (try dsimp only at hSw); go_simp⟩) (by assumption) rfl ?_
        simp only [Act.put, List.setIfInBounds_toArray, List.set_cons_zero, List.set_cons_succ]
        refine wpAnyH_takeD (i := 7) (d := 36) (v := .int .i64 tf) rfl (by kernel_rfl) (by kernel_rfl) (by kernel_rfl) (fun _ _ _ h => h) (Or.inl ⟨by rfl, by intro w hSw; (try dsimp only at hSw); go_simp⟩) (by assumption) rfl ?_
        simp only [Act.put, List.setIfInBounds_toArray, List.set_cons_zero, List.set_cons_succ]
        refine wpAnyH_ready (rs := [8]) (by kernel_rfl) (by simp) ?_
        refine AllReadyH.cons rfl (fun K hK => ?_) AllReadyH.nil
        go_simp
        refine (HT0.out _ (HTP.out.below (by first | exact HBV.out | exact HBV.out.drew | exact HBV.out.drew.drew))).mono ?_
        rintro e w9 ⟨rfl, hb9⟩
        have X9 : Hid (Below V1.heap.size V1 w9) := by first | exact hb9 | exact (Below.refl _ _).drew.trans hb9 | exact (Below.refl _ _).drew.drew.trans hb9
        have HB9 : Hid (Below w.heap.size w w9) := HBV.out.trans (X9.out.mono HBV.out.size)
        clear hb9
        obtain ⟨⟨u0, u1⟩, ⟨u2, u3, u4⟩⟩ := HCELL.out w9 (XV1.out.trans (X9.out.mono XV1.out.size))
        refine hK.out _ _ ?_ (fun hHeld => ?_)
        · exact ⟨u0, u1, u2, u3, u4⟩
        clear hK K
        try simp only [Act.put, List.setIfInBounds_toArray, List.set_cons_zero, List.set_cons_succ]
        refine wpAnyH_takeD (i := 9) (d := 38) (v := .agg #[.string (turnB tk tf)]) rfl (by kernel_rfl) (by kernel_rfl) (by kernel_rfl) (fun _ _ _ h => h) (Or.inl ⟨by rfl, by intro w hSw; (try dsimp only at hSw); go_simp⟩) (by assumption) rfl ?_
        simp only [Act.put, List.setIfInBounds_toArray, List.set_cons_zero, List.set_cons_succ]
        refine wpAnyH_takeD (i := 10) (d := 39) (v := .iface 93 (.agg #[.string (turnB tk tf)])) rfl (by kernel_rfl) (by kernel_rfl) (by kernel_rfl) (fun _ _ _ h => h) (Or.inl ⟨by rfl, by intro w hSw; (try dsimp only at hSw); go_simp⟩) (by assumption) rfl ?_
        simp only [Act.put, List.setIfInBounds_toArray, List.set_cons_zero, List.set_cons_succ]
        refine wpAnyH_takeD (i := 11) (d := 4) (v := .iface 93 (.agg #[.string (turnB tk tf)])) rfl (by kernel_rfl) (by kernel_rfl) (by kernel_rfl) (fun _ _ _ h => h) (Or.inl ⟨by rfl, by intro w hSw; (try dsimp only at hSw); go_simp⟩) (by assumption) rfl ?_
        simp only [Act.put, List.setIfInBounds_toArray, List.set_cons_zero, List.set_cons_succ]
        refine wpAnyH_done (by kernel_rfl) ?_ _
        go_wp2
        go_ret
        exact ⟨fun h => absurd (HNO.out.symm.trans h) (by decide), fun _ => ⟨_, rfl⟩, HB9.out⟩
  · skip
    go_simp
    have NU0 : Hid ((W0.alloc (.cells #[.string ⟨#[]⟩, .int .i64 0, .string ⟨#[]⟩] 28)).heap[W0.heap.size]? = some (.cells #[.string ⟨#[]⟩, .int .i64 0, .string ⟨#[]⟩] 28 (0, 0))) := heap_alloc_last _ _
    obtain ⟨U0, hU0⟩ : ∃ X, W0.alloc (.cells #[.string ⟨#[]⟩, .int .i64 0, .string ⟨#[]⟩] 28) = X := ⟨_, rfl⟩
    have XU0 : Hid (Below W.heap.size W U0) := by show Below _ _ _; rw [← hU0]; exact X0.out.alloc X0.out.size _
    rw [hU0] at NU0
    rw [hU0]
    have hzU : W0.heap.size < U0.heap.size := (Array.getElem?_eq_some_iff.1 NU0.out).1
    have HBU : Hid (Below w.heap.size w U0) := HB0.out.trans (XU0.out.mono HB0.out.size)
    obtain ⟨⟨t0, t1⟩, ⟨t2, t3, t4⟩⟩ := HCELL.out U0 XU0.out
    refine hK.out _ _ ?_ (fun hHeld => ?_)
    · exact ⟨t0, t1, t2, t3, t4⟩
    clear hK K t0 t1 t2 t3 t4
    try simp only [Act.put, List.setIfInBounds_toArray, List.set_cons_zero, List.set_cons_succ]
    refine wpAnyH_ready (rs := [9]) (by kernel_rfl) (by simp) ?_
    refine AllReadyH.cons rfl (fun K hK => ?_) AllReadyH.nil
    go_simp
    refine (HIM.out _ _ (HR.out.below HBU.out) (HTP.out.below HBU.out) (HTR.out.below HBU.out) (HTF.out.below HBU.out)).mono ?_
    rintro e w1 ⟨rfl, hb1⟩
    have Xw1 : Hid (Below W.heap.size W w1) := XU0.out.trans (hb1.mono XU0.out.size)
    have Nw1 : Hid (w1.heap[W0.heap.size]? = some (.cells #[.string ⟨#[]⟩, .int .i64 0, .string ⟨#[]⟩] 28 (0, 0))) := (hb1.block _ hzU).trans NU0.out
    clear hb1
    obtain ⟨⟨t0, t1⟩, ⟨t2, t3, t4⟩⟩ := HCELL.out w1 Xw1.out
    refine hK.out _ _ ?_ (fun hHeld => ?_)
    · exact ⟨t0, t1, t2, t3, t4⟩
    clear hK K t0 t1 t2 t3 t4
    try simp only [Act.put, List.setIfInBounds_toArray, List.set_cons_zero, List.set_cons_succ]
    refine wpAnyH_takeD (i := 10) (d := 7) (v := .tuple #[.agg #[.string tk, .int .i64 tf, .string ts], .bool B]) rfl (by kernel_rfl) (by kernel_rfl) (by kernel_rfl) (fun _ _ _ h => h) (Or.inl ⟨by rfl, by intro w hSw; (try dsimp only at hSw); go_simp⟩) (by assumption) rfl ?_
    simp only [Act.put, List.setIfInBounds_toArray, List.set_cons_zero, List.set_cons_succ]
    refine wpAnyH_takeD (i := 11) (d := 18) (v := .agg #[.string tk, .int .i64 tf, .string ts]) rfl (by kernel_rfl) (by kernel_rfl) (by kernel_rfl) (fun _ _ _ h => h) (Or.inl ⟨by rfl, by intro w hSw; (try dsimp only at hSw); go_simp⟩) (by assumption) rfl ?_
    simp only [Act.put, List.setIfInBounds_toArray, List.set_cons_zero, List.set_cons_succ]
    refine wpAnyH_takeD (i := 12) (d := 19) (v := .bool B) rfl (by kernel_rfl) (by kernel_rfl) (by kernel_rfl) (fun _ _ _ h => h) (Or.inl ⟨by rfl, by intro w hSw; (try dsimp only at hSw); go_simp⟩) (by assumption) rfl ?_
    simp only [Act.put, List.setIfInBounds_toArray, List.set_cons_zero, List.set_cons_succ]
    refine wpAnyH_ready (rs := [14]) (by kernel_rfl) (by simp) ?_
    refine AllReadyH.cons rfl (fun K hK => ?_) AllReadyH.nil
    refine step_store_row rfl 28 (.tmp 5) (.tmp 18) rfl W0.heap.size #[.string tk, .int .i64 tf, .string ts] rfl rfl 28 _ Nw1.out HS3.out rfl (by simp [Value.oneCell']) rfl ?_
    obtain ⟨V1, hV1⟩ : ∃ X, w1.setRow W0.heap.size #[.string tk, .int .i64 tf, .string ts] = X := ⟨_, rfl⟩
    have NV : Hid (V1.heap[W0.heap.size]? = some (.cells #[.string tk, .int .i64 tf, .string ts] 28 (0, 0))) := by show _ = _; rw [← hV1]; exact setRow_heap _ _ _ _ _ _ Nw1.out
    have XV1 : Hid (Below W.heap.size W V1) := by show Below _ _ _; rw [← hV1]; exact below_setRow Xw1.out X0.out.size _
    rw [hV1]
    obtain ⟨⟨t0, t1⟩, ⟨t2, t3, t4⟩⟩ := HCELL.out V1 XV1.out
    refine hK.out _ _ ?_ (fun hHeld => ?_)
    · exact ⟨t0, t1, t2, t3, t4⟩
    clear hK K t0 t1 t2 t3 t4
    try simp only [Act.put, List.setIfInBounds_toArray, List.set_cons_zero, List.set_cons_succ]
    refine wpAnyH_takeD (i := 15) (d := 6) (v := .bool B) rfl (by kernel_rfl) (by kernel_rfl) (by kernel_rfl) (fun _ _ _ h => h) (Or.inl ⟨by rfl, by intro w hSw; (try dsimp only at hSw); go_simp⟩) (by assumption) rfl ?_
    simp only [Act.put, List.setIfInBounds_toArray, List.set_cons_zero, List.set_cons_succ]
    refine wpAnyH_done (by kernel_rfl) ?_ _
    obtain ⟨⟨t0, t1⟩, ⟨t2, t3, t4⟩⟩ := HCELL.out V1 XV1.out
    have HBV : Hid (Below w.heap.size w V1) := HB0.out.trans (XV1.out.mono HB0.out.size)
    have r0 : V1.cell? ⟨W0.heap.size, 0, none⟩ = some (.string tk) := by rw [cell_of_row _ _ 0 _ _ _ NV.out]; rfl
    have r1 : V1.cell? ⟨W0.heap.size, 1, none⟩ = some (.int .i64 tf) := by rw [cell_of_row _ _ 1 _ _ _ NV.out]; rfl
    have r2 : V1.cell? ⟨W0.heap.size, 2, none⟩ = some (.string ts) := by rw [cell_of_row _ _ 2 _ _ _ NV.out]; rfl
    have hq : (ts.toList == sl.toList) = decide (ts = sl) := eqL480 _ _
    cases B with
    | false =>
      have HNO : Hid (rtkB x (key, fr, sl) = false) := HN2.out rfl
      go_wp2_with fail
      refine wp_region_held_drew (S := (fun w' => w'.cell? ⟨W0.heap.size, 0, none⟩ = some (.string tk) ∧ w'.cell? ⟨W0.heap.size, 1, none⟩ = some (.int .i64 tf) ∧ w'.cell? ⟨W0.heap.size, 2, none⟩ = some (.string ts) ∧ w'.cell? ⟨w.heap.size, 0, none⟩ = some (.slice a l cap) ∧ w'.cell? ⟨w.heap.size, 1, none⟩ = some (.slice a' l' cap') ∧ w'.cell? ⟨p, 0, none⟩ = some (.string key) ∧ w'.cell? ⟨p, 1, none⟩ = some (.int .i64 fr) ∧ w'.cell? ⟨p, 2, none⟩ = some (.string sl))) (by kernel_rfl) ?_ (fun hHeld => ?_)
      · exact ⟨r0, r1, r2, t0, t1, t2, t3, t4⟩
      refine wpAnyH_takeD (i := 0) (d := 20) (v := .bool false) rfl (by kernel_rfl) (by kernel_rfl) (by kernel_rfl) (fun _ _ _ h => h) (Or.inl ⟨by rfl, by intro w hSw; (try dsimp only at hSw); go_simp⟩) (by assumption) rfl ?_
      simp only [Act.put, List.setIfInBounds_toArray, List.set_cons_zero, List.set_cons_succ]
      refine wpAnyH_takeD (i := 1) (d := 21) (v := .bool true) rfl (by kernel_rfl) (by kernel_rfl) (by kernel_rfl) (fun _ _ _ h => h) (Or.inl ⟨by rfl, by intro w hSw; (try dsimp only at hSw); go_simp⟩) (by assumption) rfl ?_
      simp only [Act.put, List.setIfInBounds_toArray, List.set_cons_zero, List.set_cons_succ]
      refine wpAnyH_takeD (i := 2) (d := 22) (v := .bool true) rfl (by kernel_rfl) (by kernel_rfl) (by kernel_rfl) (fun _ _ _ h => h) (Or.inl ⟨by rfl, by intro w hSw; (try dsimp only at hSw); go_simp⟩) (by assumption) rfl ?_
      simp only [Act.put, List.setIfInBounds_toArray, List.set_cons_zero, List.set_cons_succ]
      refine wpAnyH_takeD (i := 3) (d := 23) (v := undef) rfl (by kernel_rfl) (by kernel_rfl) (by kernel_rfl) (fun _ _ _ h => h) (Or.inr ⟨by rfl, rfl⟩) (by assumption) rfl ?_
      simp only [Act.put, List.setIfInBounds_toArray, List.set_cons_zero, List.set_cons_succ]
      refine wpAnyH_takeD (i := 4) (d := 24) (v := undef) rfl (by kernel_rfl) (by kernel_rfl) (by kernel_rfl) (fun _ _ _ h => h) (Or.inr ⟨by rfl, rfl⟩) (by assumption) rfl ?_
      simp only [Act.put, List.setIfInBounds_toArray, List.set_cons_zero, List.set_cons_succ]
      refine wpAnyH_takeD (i := 5) (d := 25) (v := undef) rfl (by kernel_rfl) (by kernel_rfl) (by kernel_rfl) (fun _ _ _ h => h) (Or.inr ⟨by rfl, rfl⟩) (by assumption) rfl ?_
      simp only [Act.put, List.setIfInBounds_toArray, List.set_cons_zero, List.set_cons_succ]
      refine wpAnyH_takeD (i := 6) (d := 26) (v := undef) rfl (by kernel_rfl) (by kernel_rfl) (by kernel_rfl) (fun _ _ _ h => h) (Or.inr ⟨by rfl, rfl⟩) (by assumption) rfl ?_
      simp only [Act.put, List.setIfInBounds_toArray, List.set_cons_zero, List.set_cons_succ]
      refine wpAnyH_takeD (i := 7) (d := 27) (v := undef) rfl (by kernel_rfl) (by kernel_rfl) (by kernel_rfl) (fun _ _ _ h => h) (Or.inr ⟨by rfl, rfl⟩) (by assumption) rfl ?_
      simp only [Act.put, List.setIfInBounds_toArray, List.set_cons_zero, List.set_cons_succ]
      refine wpAnyH_takeD (i := 8) (d := 28) (v := .bool true) rfl (by kernel_rfl) (by kernel_rfl) (by kernel_rfl) (fun _ _ _ h => h) (Or.inl ⟨by rfl, by intro w hSw; (try dsimp only at hSw); go_simp⟩) (by assumption) rfl ?_
      simp only [Act.put, List.setIfInBounds_toArray, List.set_cons_zero, List.set_cons_succ]
      refine wpAnyH_done (by kernel_rfl) ?_ _
      go_wp2_with fail
      refine wp_region_held_drew (S := (fun w' => w'.cell? ⟨w.heap.size, 0, none⟩ = some (.slice a l cap) ∧ w'.cell? ⟨w.heap.size, 1, none⟩ = some (.slice a' l' cap') ∧ w'.cell? ⟨p, 0, none⟩ = some (.string key) ∧ w'.cell? ⟨p, 1, none⟩ = some (.int .i64 fr) ∧ w'.cell? ⟨p, 2, none⟩ = some (.string sl))) (by kernel_rfl) ?_ (fun hHeld => ?_)
      · exact ⟨t0, t1, t2, t3, t4⟩
      refine wpAnyH_takeD (i := 0) (d := 29) (v := .pointer (some ⟨p, 0, none⟩)) rfl (by kernel_rfl) (by kernel_rfl) (by kernel_rfl) (fun _ _ _ h => h) (Or.inl ⟨by rfl, by intro w hSw; (try dsimp only at hSw); go_simp⟩) (by assumption) rfl ?_
      simp only [Act.put, List.setIfInBounds_toArray, List.set_cons_zero, List.set_cons_succ]
      refine wpAnyH_takeD (i := 1) (d := 30) (v := .pointer (some ⟨p, 0, none⟩)) rfl (by kernel_rfl) (by kernel_rfl) (by kernel_rfl) (fun _ _ _ h => h) (Or.inl ⟨by rfl, by intro w hSw; (try dsimp only at hSw); go_simp⟩) (by assumption) rfl ?_
      simp only [Act.put, List.setIfInBounds_toArray, List.set_cons_zero, List.set_cons_succ]
      refine wpAnyH_takeD (i := 2) (d := 31) (v := .pointer (some ⟨p, 0, none⟩)) rfl (by kernel_rfl) (by kernel_rfl) (by kernel_rfl) (fun _ _ _ h => h) (Or.inl ⟨by rfl, by intro w hSw; (try dsimp only at hSw); go_simp⟩) (by assumption) rfl ?_
      simp only [Act.put, List.setIfInBounds_toArray, List.set_cons_zero, List.set_cons_succ]
      refine wpAnyH_takeD (i := 3) (d := 32) (v := .string key) rfl (by kernel_rfl) (by kernel_rfl) (by kernel_rfl) (fun _ _ _ h => h) (Or.inl ⟨by rfl, by intro w hSw; (try dsimp only at hSw); go_simp⟩) (by assumption) rfl ?_
      simp only [Act.put, List.setIfInBounds_toArray, List.set_cons_zero, List.set_cons_succ]
      refine wpAnyH_takeD (i := 4) (d := 33) (v := .pointer (some ⟨p, 0, none⟩)) rfl (by kernel_rfl) (by kernel_rfl) (by kernel_rfl) (fun _ _ _ h => h) (Or.inl ⟨by rfl, by intro w hSw; (try dsimp only at hSw); go_simp⟩) (by assumption) rfl ?_
      simp only [Act.put, List.setIfInBounds_toArray, List.set_cons_zero, List.set_cons_succ]
      refine wpAnyH_takeD (i := 5) (d := 34) (v := .pointer (some ⟨p, 0, none⟩)) rfl (by kernel_rfl) (by kernel_rfl) (by kernel_rfl) (fun _ _ _ h => h) (Or.inl ⟨by rfl, by intro w hSw; (try dsimp only at hSw); go_simp⟩) (by assumption) rfl ?_
      simp only [Act.put, List.setIfInBounds_toArray, List.set_cons_zero, List.set_cons_succ]
      refine wpAnyH_takeD (i := 6) (d := 35) (v := .pointer (some ⟨p, 1, none⟩)) rfl (by kernel_rfl) (by kernel_rfl) (by kernel_rfl) (fun _ _ _ h => h) (Or.inl ⟨by rfl, by intro w hSw; (try dsimp only at hSw); go_simp⟩) (by assumption) rfl ?_
      simp only [Act.put, List.setIfInBounds_toArray, List.set_cons_zero, List.set_cons_succ]
      refine wpAnyH_takeD (i := 7) (d := 36) (v := .int .i64 fr) rfl (by kernel_rfl) (by kernel_rfl) (by kernel_rfl) (fun _ _ _ h => h) (Or.inl ⟨by rfl, by intro w hSw; (try dsimp only at hSw); go_simp⟩) (by assumption) rfl ?_
      simp only [Act.put, List.setIfInBounds_toArray, List.set_cons_zero, List.set_cons_succ]
      refine wpAnyH_ready (rs := [8]) (by kernel_rfl) (by simp) ?_
      refine AllReadyH.cons rfl (fun K hK => ?_) AllReadyH.nil
      go_simp
      refine (HT0.out _ (HTP.out.below (by first | exact HBV.out | exact HBV.out.drew | exact HBV.out.drew.drew))).mono ?_
      rintro e w9 ⟨rfl, hb9⟩
      have X9 : Hid (Below V1.heap.size V1 w9) := by first | exact hb9 | exact (Below.refl _ _).drew.trans hb9 | exact (Below.refl _ _).drew.drew.trans hb9
      have HB9 : Hid (Below w.heap.size w w9) := HBV.out.trans (X9.out.mono HBV.out.size)
      clear hb9
      obtain ⟨⟨u0, u1⟩, ⟨u2, u3, u4⟩⟩ := HCELL.out w9 (XV1.out.trans (X9.out.mono XV1.out.size))
      refine hK.out _ _ ?_ (fun hHeld => ?_)
      · exact ⟨u0, u1, u2, u3, u4⟩
      clear hK K
      try simp only [Act.put, List.setIfInBounds_toArray, List.set_cons_zero, List.set_cons_succ]
      refine wpAnyH_takeD (i := 9) (d := 38) (v := .agg #[.string (turnB key fr)]) rfl (by kernel_rfl) (by kernel_rfl) (by kernel_rfl) (fun _ _ _ h => h) (Or.inl ⟨by rfl, by intro w hSw; (try dsimp only at hSw); go_simp⟩) (by assumption) rfl ?_
      simp only [Act.put, List.setIfInBounds_toArray, List.set_cons_zero, List.set_cons_succ]
      refine wpAnyH_takeD (i := 10) (d := 39) (v := .iface 93 (.agg #[.string (turnB key fr)])) rfl (by kernel_rfl) (by kernel_rfl) (by kernel_rfl) (fun _ _ _ h => h) (Or.inl ⟨by rfl, by intro w hSw; (try dsimp only at hSw); go_simp⟩) (by assumption) rfl ?_
      simp only [Act.put, List.setIfInBounds_toArray, List.set_cons_zero, List.set_cons_succ]
      refine wpAnyH_takeD (i := 11) (d := 4) (v := .iface 93 (.agg #[.string (turnB key fr)])) rfl (by kernel_rfl) (by kernel_rfl) (by kernel_rfl) (fun _ _ _ h => h) (Or.inl ⟨by rfl, by intro w hSw; (try dsimp only at hSw); go_simp⟩) (by assumption) rfl ?_
      simp only [Act.put, List.setIfInBounds_toArray, List.set_cons_zero, List.set_cons_succ]
      refine wpAnyH_done (by kernel_rfl) ?_ _
      go_wp2
      go_ret
      exact ⟨fun h => absurd (HNO.out.symm.trans h) (by decide), fun _ => ⟨_, rfl⟩, HB9.out⟩
    | true =>
      obtain ⟨hk1, hf1⟩ := HTK.out rfl
      subst hk1
      subst hf1
      by_cases hs : ts = sl
      · skip
        rw [decide_eq_true hs] at hq
        have HNO : Hid (rtkB x (tk, tf, sl) = true) := HYES.out rfl hs
        go_wp2_with fail
        refine wp_region_held_drew (S := (fun w' => w'.cell? ⟨W0.heap.size, 0, none⟩ = some (.string tk) ∧ w'.cell? ⟨W0.heap.size, 1, none⟩ = some (.int .i64 tf) ∧ w'.cell? ⟨W0.heap.size, 2, none⟩ = some (.string ts) ∧ w'.cell? ⟨w.heap.size, 0, none⟩ = some (.slice a l cap) ∧ w'.cell? ⟨w.heap.size, 1, none⟩ = some (.slice a' l' cap') ∧ w'.cell? ⟨p, 0, none⟩ = some (.string tk) ∧ w'.cell? ⟨p, 1, none⟩ = some (.int .i64 tf) ∧ w'.cell? ⟨p, 2, none⟩ = some (.string sl))) (by kernel_rfl) ?_ (fun hHeld => ?_)
        · exact ⟨r0, r1, r2, t0, t1, t2, t3, t4⟩
        refine wpAnyH_takeD (i := 0) (d := 20) (v := .bool true) rfl (by kernel_rfl) (by kernel_rfl) (by kernel_rfl) (fun _ _ _ h => h) (Or.inl ⟨by rfl, by intro w hSw; (try dsimp only at hSw); go_simp⟩) (by assumption) rfl ?_
        simp only [Act.put, List.setIfInBounds_toArray, List.set_cons_zero, List.set_cons_succ]
        refine wpAnyH_takeD (i := 1) (d := 21) (v := .bool false) rfl (by kernel_rfl) (by kernel_rfl) (by kernel_rfl) (fun _ _ _ h => h) (Or.inl ⟨by rfl, by intro w hSw; (try dsimp only at hSw); go_simp⟩) (by assumption) rfl ?_
        simp only [Act.put, List.setIfInBounds_toArray, List.set_cons_zero, List.set_cons_succ]
        refine wpAnyH_takeD (i := 2) (d := 22) (v := .bool false) rfl (by kernel_rfl) (by kernel_rfl) (by kernel_rfl) (fun _ _ _ h => h) (Or.inl ⟨by rfl, by intro w hSw; (try dsimp only at hSw); go_simp⟩) (by assumption) rfl ?_
        simp only [Act.put, List.setIfInBounds_toArray, List.set_cons_zero, List.set_cons_succ]
        refine wpAnyH_takeD (i := 3) (d := 23) (v := .agg #[.string tk, .int .i64 tf, .string ts]) rfl (by kernel_rfl) (by kernel_rfl) (by kernel_rfl) (fun _ _ _ h => h) (Or.inl ⟨by rfl, by intro w hSw; (try dsimp only at hSw); go_simp⟩) (by assumption) rfl ?_
        simp only [Act.put, List.setIfInBounds_toArray, List.set_cons_zero, List.set_cons_succ]
        refine wpAnyH_takeD (i := 4) (d := 24) (v := .pointer (some ⟨p, 0, none⟩)) rfl (by kernel_rfl) (by kernel_rfl) (by kernel_rfl) (fun _ _ _ h => h) (Or.inl ⟨by rfl, by intro w hSw; (try dsimp only at hSw); go_simp⟩) (by assumption) rfl ?_
        simp only [Act.put, List.setIfInBounds_toArray, List.set_cons_zero, List.set_cons_succ]
        refine wpAnyH_takeD (i := 5) (d := 25) (v := .pointer (some ⟨p, 0, none⟩)) rfl (by kernel_rfl) (by kernel_rfl) (by kernel_rfl) (fun _ _ _ h => h) (Or.inl ⟨by rfl, by intro w hSw; (try dsimp only at hSw); go_simp⟩) (by assumption) rfl ?_
        simp only [Act.put, List.setIfInBounds_toArray, List.set_cons_zero, List.set_cons_succ]
        refine wpAnyH_takeD (i := 6) (d := 26) (v := .agg #[.string tk, .int .i64 tf, .string sl]) rfl (by kernel_rfl) (by kernel_rfl) (by kernel_rfl) (fun _ _ _ h => h) (Or.inl ⟨by rfl, by intro w hSw; (try dsimp only at hSw); go_simp⟩) (by assumption) rfl ?_
        simp only [Act.put, List.setIfInBounds_toArray, List.set_cons_zero, List.set_cons_succ]
        refine wpAnyH_takeD (i := 7) (d := 27) (v := .bool false) rfl (by kernel_rfl) (by kernel_rfl) (by kernel_rfl) (fun _ _ _ h => h) (Or.inl ⟨by rfl, by intro w hSw; (try dsimp only at hSw); go_simp⟩) (by assumption) rfl ?_
        simp only [Act.put, List.setIfInBounds_toArray, List.set_cons_zero, List.set_cons_succ]
        refine wpAnyH_takeD (i := 8) (d := 28) (v := .bool false) rfl (by kernel_rfl) (by kernel_rfl) (by kernel_rfl) (fun _ _ _ h => h) (Or.inl ⟨by rfl, by intro w hSw; (try dsimp only at hSw); go_simp⟩) (by assumption) rfl ?_
        simp only [Act.put, List.setIfInBounds_toArray, List.set_cons_zero, List.set_cons_succ]
        refine wpAnyH_done (by kernel_rfl) ?_ _
        go_wp2
        go_ret
        exact ⟨fun _ => rfl, fun h => absurd (HNO.out.symm.trans h) (by decide), by first | exact HBV.out.drew | exact HBV.out.drew.drew | exact HBV.out⟩
      · skip
        rw [decide_eq_false hs] at hq
        have HNO : Hid (rtkB x (tk, tf, sl) = false) := HN3.out hs
        go_wp2_with fail
        refine wp_region_held_drew (S := (fun w' => w'.cell? ⟨W0.heap.size, 0, none⟩ = some (.string tk) ∧ w'.cell? ⟨W0.heap.size, 1, none⟩ = some (.int .i64 tf) ∧ w'.cell? ⟨W0.heap.size, 2, none⟩ = some (.string ts) ∧ w'.cell? ⟨w.heap.size, 0, none⟩ = some (.slice a l cap) ∧ w'.cell? ⟨w.heap.size, 1, none⟩ = some (.slice a' l' cap') ∧ w'.cell? ⟨p, 0, none⟩ = some (.string tk) ∧ w'.cell? ⟨p, 1, none⟩ = some (.int .i64 tf) ∧ w'.cell? ⟨p, 2, none⟩ = some (.string sl))) (by kernel_rfl) ?_ (fun hHeld => ?_)
        · exact ⟨r0, r1, r2, t0, t1, t2, t3, t4⟩
        refine wpAnyH_takeD (i := 0) (d := 20) (v := .bool true) rfl (by kernel_rfl) (by kernel_rfl) (by kernel_rfl) (fun _ _ _ h => h) (Or.inl ⟨by rfl, by intro w hSw; (try dsimp only at hSw); go_simp⟩) (by assumption) rfl ?_
        simp only [Act.put, List.setIfInBounds_toArray, List.set_cons_zero, List.set_cons_succ]
        refine wpAnyH_takeD (i := 1) (d := 21) (v := .bool false) rfl (by kernel_rfl) (by kernel_rfl) (by kernel_rfl) (fun _ _ _ h => h) (Or.inl ⟨by rfl, by intro w hSw; (try dsimp only at hSw); go_simp⟩) (by assumption) rfl ?_
        simp only [Act.put, List.setIfInBounds_toArray, List.set_cons_zero, List.set_cons_succ]
        refine wpAnyH_takeD (i := 2) (d := 22) (v := .bool false) rfl (by kernel_rfl) (by kernel_rfl) (by kernel_rfl) (fun _ _ _ h => h) (Or.inl ⟨by rfl, by intro w hSw; (try dsimp only at hSw); go_simp⟩) (by assumption) rfl ?_
        simp only [Act.put, List.setIfInBounds_toArray, List.set_cons_zero, List.set_cons_succ]
        refine wpAnyH_takeD (i := 3) (d := 23) (v := .agg #[.string tk, .int .i64 tf, .string ts]) rfl (by kernel_rfl) (by kernel_rfl) (by kernel_rfl) (fun _ _ _ h => h) (Or.inl ⟨by rfl, by intro w hSw; (try dsimp only at hSw); go_simp⟩) (by assumption) rfl ?_
        simp only [Act.put, List.setIfInBounds_toArray, List.set_cons_zero, List.set_cons_succ]
        refine wpAnyH_takeD (i := 4) (d := 24) (v := .pointer (some ⟨p, 0, none⟩)) rfl (by kernel_rfl) (by kernel_rfl) (by kernel_rfl) (fun _ _ _ h => h) (Or.inl ⟨by rfl, by intro w hSw; (try dsimp only at hSw); go_simp⟩) (by assumption) rfl ?_
        simp only [Act.put, List.setIfInBounds_toArray, List.set_cons_zero, List.set_cons_succ]
        refine wpAnyH_takeD (i := 5) (d := 25) (v := .pointer (some ⟨p, 0, none⟩)) rfl (by kernel_rfl) (by kernel_rfl) (by kernel_rfl) (fun _ _ _ h => h) (Or.inl ⟨by rfl, by intro w hSw; (try dsimp only at hSw); go_simp⟩) (by assumption) rfl ?_
        simp only [Act.put, List.setIfInBounds_toArray, List.set_cons_zero, List.set_cons_succ]
        refine wpAnyH_takeD (i := 6) (d := 26) (v := .agg #[.string tk, .int .i64 tf, .string sl]) rfl (by kernel_rfl) (by kernel_rfl) (by kernel_rfl) (fun _ _ _ h => h) (Or.inl ⟨by rfl, by intro w hSw; (try dsimp only at hSw); go_simp⟩) (by assumption) rfl ?_
        simp only [Act.put, List.setIfInBounds_toArray, List.set_cons_zero, List.set_cons_succ]
        refine wpAnyH_takeD (i := 7) (d := 27) (v := .bool true) rfl (by kernel_rfl) (by kernel_rfl) (by kernel_rfl) (fun _ _ _ h => h) (Or.inl ⟨by rfl, by intro w hSw; (try dsimp only at hSw); go_simp⟩) (by assumption) rfl ?_
        simp only [Act.put, List.setIfInBounds_toArray, List.set_cons_zero, List.set_cons_succ]
        refine wpAnyH_takeD (i := 8) (d := 28) (v := .bool true) rfl (by kernel_rfl) (by kernel_rfl) (by kernel_rfl) (fun _ _ _ h => h) (Or.inl ⟨by rfl, by intro w hSw; (try dsimp only at hSw); go_simp⟩) (by assumption) rfl ?_
        simp only [Act.put, List.setIfInBounds_toArray, List.set_cons_zero, List.set_cons_succ]
        refine wpAnyH_done (by kernel_rfl) ?_ _
        go_wp2_with fail
        refine wp_region_held_drew (S := (fun w' => w'.cell? ⟨w.heap.size, 0, none⟩ = some (.slice a l cap) ∧ w'.cell? ⟨w.heap.size, 1, none⟩ = some (.slice a' l' cap') ∧ w'.cell? ⟨p, 0, none⟩ = some (.string tk) ∧ w'.cell? ⟨p, 1, none⟩ = some (.int .i64 tf) ∧ w'.cell? ⟨p, 2, none⟩ = some (.string sl))) (by kernel_rfl) ?_ (fun hHeld => ?_)
        · exact ⟨t0, t1, t2, t3, t4⟩
        refine wpAnyH_takeD (i := 0) (d := 29) (v := .pointer (some ⟨p, 0, none⟩)) rfl (by kernel_rfl) (by kernel_rfl) (by kernel_rfl) (fun _ _ _ h => h) (Or.inl ⟨by rfl, by intro w hSw; (try dsimp only at hSw); go_simp⟩) (by assumption) rfl ?_
        simp only [Act.put, List.setIfInBounds_toArray, List.set_cons_zero, List.set_cons_succ]
        refine wpAnyH_takeD (i := 1) (d := 30) (v := .pointer (some ⟨p, 0, none⟩)) rfl (by kernel_rfl) (by kernel_rfl) (by kernel_rfl) (fun _ _ _ h => h) (Or.inl ⟨by rfl, by intro w hSw; (try dsimp only at hSw); go_simp⟩) (by assumption) rfl ?_
        simp only [Act.put, List.setIfInBounds_toArray, List.set_cons_zero, List.set_cons_succ]
        refine wpAnyH_takeD (i := 2) (d := 31) (v := .pointer (some ⟨p, 0, none⟩)) rfl (by kernel_rfl) (by kernel_rfl) (by kernel_rfl) (fun _ _ _ h => h) (Or.inl ⟨by rfl, by intro w hSw; (try dsimp only at hSw); go_simp⟩) (by assumption) rfl ?_
        simp only [Act.put, List.setIfInBounds_toArray, List.set_cons_zero, List.set_cons_succ]
        refine wpAnyH_takeD (i := 3) (d := 32) (v := .string tk) rfl (by kernel_rfl) (by kernel_rfl) (by kernel_rfl) (fun _ _ _ h => h) (Or.inl ⟨by rfl, by intro w hSw; (try dsimp only at hSw); go_simp⟩) (by assumption) rfl ?_
        simp only [Act.put, List.setIfInBounds_toArray, List.set_cons_zero, List.set_cons_succ]
        refine wpAnyH_takeD (i := 4) (d := 33) (v := .pointer (some ⟨p, 0, none⟩)) rfl (by kernel_rfl) (by kernel_rfl) (by kernel_rfl) (fun _ _ _ h => h) (Or.inl ⟨by rfl, by intro w hSw; (try dsimp only at hSw); go_simp⟩) (by assumption) rfl ?_
        simp only [Act.put, List.setIfInBounds_toArray, List.set_cons_zero, List.set_cons_succ]
        refine wpAnyH_takeD (i := 5) (d := 34) (v := .pointer (some ⟨p, 0, none⟩)) rfl (by kernel_rfl) (by kernel_rfl) (by kernel_rfl) (fun _ _ _ h => h) (Or.inl ⟨by rfl, by intro w hSw; (try dsimp only at hSw); go_simp⟩) (by assumption) rfl ?_
        simp only [Act.put, List.setIfInBounds_toArray, List.set_cons_zero, List.set_cons_succ]
        refine wpAnyH_takeD (i := 6) (d := 35) (v := .pointer (some ⟨p, 1, none⟩)) rfl (by kernel_rfl) (by kernel_rfl) (by kernel_rfl) (fun _ _ _ h => h) (Or.inl ⟨by rfl, by intro w hSw; (try dsimp only at hSw); go_simp⟩) (by assumption) rfl ?_
        simp only [Act.put, List.setIfInBounds_toArray, List.set_cons_zero, List.set_cons_succ]
        refine wpAnyH_takeD (i := 7) (d := 36) (v := .int .i64 tf) rfl (by kernel_rfl) (by kernel_rfl) (by kernel_rfl) (fun _ _ _ h => h) (Or.inl ⟨by rfl, by intro w hSw; (try dsimp only at hSw); go_simp⟩) (by assumption) rfl ?_
        simp only [Act.put, List.setIfInBounds_toArray, List.set_cons_zero, List.set_cons_succ]
        refine wpAnyH_ready (rs := [8]) (by kernel_rfl) (by simp) ?_
        refine AllReadyH.cons rfl (fun K hK => ?_) AllReadyH.nil
        go_simp
        refine (HT0.out _ (HTP.out.below (by first | exact HBV.out | exact HBV.out.drew | exact HBV.out.drew.drew))).mono ?_
        rintro e w9 ⟨rfl, hb9⟩
        have X9 : Hid (Below V1.heap.size V1 w9) := by first | exact hb9 | exact (Below.refl _ _).drew.trans hb9 | exact (Below.refl _ _).drew.drew.trans hb9
        have HB9 : Hid (Below w.heap.size w w9) := HBV.out.trans (X9.out.mono HBV.out.size)
        clear hb9
        obtain ⟨⟨u0, u1⟩, ⟨u2, u3, u4⟩⟩ := HCELL.out w9 (XV1.out.trans (X9.out.mono XV1.out.size))
        refine hK.out _ _ ?_ (fun hHeld => ?_)
        · exact ⟨u0, u1, u2, u3, u4⟩
        clear hK K
        try simp only [Act.put, List.setIfInBounds_toArray, List.set_cons_zero, List.set_cons_succ]
        refine wpAnyH_takeD (i := 9) (d := 38) (v := .agg #[.string (turnB tk tf)]) rfl (by kernel_rfl) (by kernel_rfl) (by kernel_rfl) (fun _ _ _ h => h) (Or.inl ⟨by rfl, by intro w hSw; (try dsimp only at hSw); go_simp⟩) (by assumption) rfl ?_
        simp only [Act.put, List.setIfInBounds_toArray, List.set_cons_zero, List.set_cons_succ]
        refine wpAnyH_takeD (i := 10) (d := 39) (v := .iface 93 (.agg #[.string (turnB tk tf)])) rfl (by kernel_rfl) (by kernel_rfl) (by kernel_rfl) (fun _ _ _ h => h) (Or.inl ⟨by rfl, by intro w hSw; (try dsimp only at hSw); go_simp⟩) (by assumption) rfl ?_
        simp only [Act.put, List.setIfInBounds_toArray, List.set_cons_zero, List.set_cons_succ]
        refine wpAnyH_takeD (i := 11) (d := 4) (v := .iface 93 (.agg #[.string (turnB tk tf)])) rfl (by kernel_rfl) (by kernel_rfl) (by kernel_rfl) (fun _ _ _ h => h) (Or.inl ⟨by rfl, by intro w hSw; (try dsimp only at hSw); go_simp⟩) (by assumption) rfl ?_
        simp only [Act.put, List.setIfInBounds_toArray, List.set_cons_zero, List.set_cons_succ]
        refine wpAnyH_done (by kernel_rfl) ?_ _
        go_wp2
        go_ret
        exact ⟨fun h => absurd (HNO.out.symm.trans h) (by decide), fun _ => ⟨_, rfl⟩, HB9.out⟩
end Go.Proofs.YtdjpeickokoclaaDoor
/-
  A turn put behind a ring's keys: (*impl.Ring).take.
-/
namespace Go.Proofs.YtdjpeickokoclaaDoor
open Go.RowKit
set_option linter.unusedVariables false
theorem RingOwn.setRow482 {lo hi q : Nat} {w : World} {v : Value} {x : RingM} (h : RingOwn lo hi w v x) (hq : q < lo) (cs : Array Value) : RingOwn lo hi (w.setRow q cs) v x := by
  obtain ⟨va, vn, rfl, h1, h2⟩ := h
  exact ⟨va, vn, rfl, ⟨h1.1.block fun g h3 _ _ _ _ => setRow_other _ _ _ _ (by omega), h1.2⟩, RowOwn.block h2 fun g h3 _ _ _ _ => setRow_other _ _ _ _ (by omega)⟩
set_option maxRecDepth 100000 in
set_option maxHeartbeats 8000000 in
theorem implTake_any (w : World) (q : Nat) (v1 v2 : Value) (x : RingM) (key : ByteArray) (fr : Int) (sl : ByteArray) (hq : w.heap[q]? = some (.cells #[v1, v2] 26 (0, 0))) (h : RingAt w (.agg #[v1, v2]) x) (hok : ringOk x = true) (hk : key.size ≤ 1100000) (h0 : -9223372036854775808 ≤ fr) (h1 : fr ≤ 9223372036854775807) (hP : powTab w) (hR : roundTab w) (hF : firstTab w) :
    Calls Tryd.prog 24 #[.pointer (some ⟨q, 0, none⟩), .agg #[.string key, .int .i64 fr, .string sl]] w fun e w' => ((rtkB x (key, fr, sl) = true → e = .returned .nilIface) ∧ (rtkB x (key, fr, sl) = false → ∃ T, e = .returned (.iface 93 T))) ∧ (rtkB x (key, fr, sl) = false → Below w.heap.size w w') ∧ (rtkB x (key, fr, sl) = true → ∃ u1 u2, w'.heap[q]? = some (.cells #[u1, u2] 26 (0, 0)) ∧ RingOwn w.heap.size w'.heap.size w' (.agg #[u1, u2]) (longT x key fr)) ∧ Below q w w' := by
  obtain ⟨a, l, cap, a', l', cap', hv⟩ := h.form2
  cases hv
  have HR : Hid (RingAt w (.agg #[.slice a l cap, .slice a' l' cap']) x) := h
  have HTP : Hid (powTab w) := hP
  have HTR : Hid (roundTab w) := hR
  have HTF : Hid (firstTab w) := hF
  have HK : Hid (key.size ≤ maxLen) := by show _ ≤ _; unfold maxLen; omega
  have HS2 : Hid ((Tryd.prog.info? 26).map (·.size) = some 2) := info_ring478
  have HUR : Hid (Tryd.prog.underlying 26 = _) := Tryd.underlying26
  have HG : Hid (RingGood x) := ringOk_good hok
  have hl5 : x.1.length ≤ 5 := HG.out.2.1
  have hl8 : x.2.length ≤ 5 := by have := HG.out.2.2.1; omega
  obtain ⟨W, hW⟩ : ∃ W, w.alloc (.cells #[.string key, .int .i64 fr, .string sl] 28) = W := ⟨_, rfl⟩
  have N0 : W.heap[w.heap.size]? = some (.cells #[.string key, .int .i64 fr, .string sl] 28 (0, 0)) := by rw [← hW]; exact heap_alloc_last w _
  have HB0 : Hid (Below w.heap.size w W) := by show Below _ _ _; rw [← hW]; exact (Below.refl _ _).alloc (Nat.le_refl _) _
  have HW : Hid (w.alloc (.cells #[.string key, .int .i64 fr, .string sl] 28) = W) := hW
  have hzq : q < w.heap.size := lt_of_block405 hq
  have hzW : w.heap.size < W.heap.size := (Array.getElem?_eq_some_iff.1 N0).1
  have HQ : Hid (∀ V, Below W.heap.size W V → V.heap[q]? = some (.cells #[.slice a l cap, .slice a' l' cap'] 26 (0, 0))) := fun V hV => ((hV.block _ (by omega)).trans (HB0.out.block _ hzq)).trans hq
  have HCELL : Hid (∀ V, Below W.heap.size W V → (V.cell? ⟨q, 0, none⟩ = some (.slice a l cap) ∧ V.cell? ⟨q, 1, none⟩ = some (.slice a' l' cap')) ∧ (V.cell? ⟨w.heap.size, 0, none⟩ = some (.string key) ∧ V.cell? ⟨w.heap.size, 1, none⟩ = some (.int .i64 fr) ∧ V.cell? ⟨w.heap.size, 2, none⟩ = some (.string sl))) := fun V hV => by
    have e0 := HQ.out V hV
    have e1 : V.heap[w.heap.size]? = _ := (hV.block _ hzW).trans N0
    exact ⟨⟨by rw [cell_of_row _ _ 0 _ _ _ e0]; rfl, by rw [cell_of_row _ _ 1 _ _ _ e0]; rfl⟩, ⟨by rw [cell_of_row _ _ 0 _ _ _ e1]; rfl, by rw [cell_of_row _ _ 1 _ _ _ e1]; rfl, by rw [cell_of_row _ _ 2 _ _ _ e1]; rfl⟩⟩
  have HCK := implCheck_any W w.heap.size _ x key fr sl (HR.out.below HB0.out) hok hk h0 h1 N0 (HTP.out.below HB0.out) (HTR.out.below HB0.out) (HTF.out.below HB0.out)
  obtain ⟨⟨s0, s1⟩, -⟩ := HCELL.out W (Below.refl _ _)
  have x0 : w.cell? ⟨q, 0, none⟩ = some (.slice a l cap) := by rw [cell_of_row _ _ 0 _ _ _ hq]; rfl
  have x1 : w.cell? ⟨q, 1, none⟩ = some (.slice a' l' cap') := by rw [cell_of_row _ _ 1 _ _ _ hq]; rfl
  have y0 : (w.alloc (.cells #[.string key, .int .i64 fr, .string sl] 28)).cell? ⟨q, 0, none⟩ = some (.slice a l cap) := by rw [hW]; exact s0
  have y1 : (w.alloc (.cells #[.string key, .int .i64 fr, .string sl] 28)).cell? ⟨q, 1, none⟩ = some (.slice a' l' cap') := by rw [hW]; exact s1
  have hqn : q ≠ w.heap.size := by omega
  clear h hok hk h0 h1 hq hP hR hF hW N0
  go_enter Tryd.func24, Tryd.ntmps24
  go_wp2_with fail
  try rw [HW.out]
  refine HCK.mono ?_
  rintro e w1 ⟨hy, hn, hb1⟩
  have X1 : Hid (Below W.heap.size W w1) := hb1
  have HB1 : Hid (Below w.heap.size w w1) := HB0.out.trans (hb1.mono HB0.out.size)
  clear hb1 s0 s1 x0 x1 y0 y1
  cases hB : rtkB x (key, fr, sl) with
  | false =>
    obtain ⟨T, rfl⟩ := hn hB
    clear hy hn HCK
    go_wp2
    go_ret
    exact ⟨⟨fun h => absurd (hB.symm.trans h) (by decide), fun _ => ⟨_, rfl⟩⟩, fun _ => HB1.out, fun h => absurd (hB.symm.trans h) (by decide), HB1.out.mono (Nat.le_of_lt hzq)⟩
  | true =>
    have he := hy hB
    subst he
    clear hy hn HCK
    obtain ⟨⟨s0, s1⟩, ⟨s2, s3, s4⟩⟩ := HCELL.out w1 X1.out
    go_wp2_with fail
    refine wp_region_held_drew (S := (fun w' => w'.cell? ⟨w.heap.size, 0, none⟩ = some (.string key) ∧ w'.cell? ⟨w.heap.size, 1, none⟩ = some (.int .i64 fr))) (by kernel_rfl) ?_ (fun hHeld => ?_)
    · exact ⟨s2, s3⟩
    refine wpAnyH_takeD (i := 0) (d := 13) (v := .pointer (some ⟨q, 0, none⟩)) rfl (by kernel_rfl) (by kernel_rfl) (by kernel_rfl) (fun _ _ _ h => h) (Or.inl ⟨by rfl, by intro w hSw; (try dsimp only at hSw); go_simp⟩) (by assumption) rfl ?_
    simp only [Act.put, List.setIfInBounds_toArray, List.set_cons_zero, List.set_cons_succ]
    refine wpAnyH_takeD (i := 1) (d := 14) (v := .pointer (some ⟨q, 0, none⟩)) rfl (by kernel_rfl) (by kernel_rfl) (by kernel_rfl) (fun _ _ _ h => h) (Or.inl ⟨by rfl, by intro w hSw; (try dsimp only at hSw); go_simp⟩) (by assumption) rfl ?_
    simp only [Act.put, List.setIfInBounds_toArray, List.set_cons_zero, List.set_cons_succ]
    refine wpAnyH_takeD (i := 2) (d := 15) (v := .pointer (some ⟨q, 0, none⟩)) rfl (by kernel_rfl) (by kernel_rfl) (by kernel_rfl) (fun _ _ _ h => h) (Or.inl ⟨by rfl, by intro w hSw; (try dsimp only at hSw); go_simp⟩) (by assumption) rfl ?_
    simp only [Act.put, List.setIfInBounds_toArray, List.set_cons_zero, List.set_cons_succ]
    refine wpAnyH_takeD (i := 4) (d := 17) (v := .pointer (some ⟨w.heap.size, 0, none⟩)) rfl (by kernel_rfl) (by kernel_rfl) (by kernel_rfl) (fun _ _ _ h => h) (Or.inl ⟨by rfl, by intro w hSw; (try dsimp only at hSw); go_simp⟩) (by assumption) rfl ?_
    simp only [Act.put, List.setIfInBounds_toArray, List.set_cons_zero, List.set_cons_succ]
    refine wpAnyH_takeD (i := 5) (d := 18) (v := .string key) rfl (by kernel_rfl) (by kernel_rfl) (by kernel_rfl) (fun _ _ _ h => h) (Or.inl ⟨by rfl, by intro w hSw; (try dsimp only at hSw); go_simp⟩) (by assumption) rfl ?_
    simp only [Act.put, List.setIfInBounds_toArray, List.set_cons_zero, List.set_cons_succ]
    refine wpAnyH_takeD (i := 6) (d := 19) (v := .pointer (some ⟨w.heap.size, 1, none⟩)) rfl (by kernel_rfl) (by kernel_rfl) (by kernel_rfl) (fun _ _ _ h => h) (Or.inl ⟨by rfl, by intro w hSw; (try dsimp only at hSw); go_simp⟩) (by assumption) rfl ?_
    simp only [Act.put, List.setIfInBounds_toArray, List.set_cons_zero, List.set_cons_succ]
    refine wpAnyH_takeD (i := 7) (d := 20) (v := .int .i64 fr) rfl (by kernel_rfl) (by kernel_rfl) (by kernel_rfl) (fun _ _ _ h => h) (Or.inl ⟨by rfl, by intro w hSw; (try dsimp only at hSw); go_simp⟩) (by assumption) rfl ?_
    simp only [Act.put, List.setIfInBounds_toArray, List.set_cons_zero, List.set_cons_succ]
    obtain ⟨w1', hw1⟩ : ∃ X, World.drew w1 = X := ⟨_, rfl⟩
    have Y1 : Hid (Below w1.heap.size w1 w1') := by show Below _ _ _; rw [← hw1]; exact (Below.refl _ _).drew
    have X1' : Hid (Below W.heap.size W w1') := X1.out.trans (Y1.out.mono X1.out.size)
    have HB1' : Hid (Below w.heap.size w w1') := HB1.out.trans (Y1.out.mono HB1.out.size)
    rw [hw1]
    clear hw1 s0 s1 s2 s3 s4
    refine wpAnyH_ready (rs := [3]) (by kernel_rfl) (by simp) ?_
    refine AllReadyH.cons rfl (fun K hK => ?_) AllReadyH.nil
    refine step_load_row rfl 26 (.tmp 15) rfl q rfl 26 #[.slice a l cap, .slice a' l' cap'] (0, 0) _ (HQ.out w1' X1'.out) HUR.out rfl HS2.out (n := 16) rfl ?_
    obtain ⟨-, ⟨s2, s3, s4⟩⟩ := HCELL.out w1' X1'.out
    refine hK.out _ _ ?_ (fun hHeld => ?_)
    · exact ⟨s2, s3⟩
    clear hK K s2 s3 s4
    try simp only [Act.put, List.setIfInBounds_toArray, List.set_cons_zero, List.set_cons_succ]
    refine wpAnyH_ready (rs := [8]) (by kernel_rfl) (by simp) ?_
    refine AllReadyH.cons rfl (fun K hK => ?_) AllReadyH.nil
    go_simp
    refine (longerRing_any _ _ x key fr (HR.out.below HB1'.out) (by omega) (by omega) HK.out).mono ?_
    rintro e w2 ⟨v', rfl, ho2, hb2⟩
    obtain ⟨g1, n1, c1, g2, n2, c2, rfl⟩ := ho2.at.form2
    have X2 : Hid (Below W.heap.size W w2) := X1'.out.trans (hb2.mono X1'.out.size)
    have HB2 : Hid (Below w.heap.size w w2) := HB1'.out.trans (hb2.mono HB1'.out.size)
    have HO2 : Hid (RingOwn w1'.heap.size w2.heap.size w2 (.agg #[.slice g1 n1 c1, .slice g2 n2 c2]) (longT x key fr)) := ho2
    have hzw : w.heap.size ≤ w1'.heap.size := HB1'.out.size
    clear hb2 ho2
    obtain ⟨-, ⟨s2, s3, s4⟩⟩ := HCELL.out w2 X2.out
    refine hK.out _ _ ?_ (fun hHeld => ?_)
    · exact ⟨s2, s3⟩
    clear hK K s2 s3 s4
    try simp only [Act.put, List.setIfInBounds_toArray, List.set_cons_zero, List.set_cons_succ]
    refine wpAnyH_takeD (i := 9) (d := 22) (v := .pointer (some ⟨q, 0, none⟩)) rfl (by kernel_rfl) (by kernel_rfl) (by kernel_rfl) (fun _ _ _ h => h) (Or.inl ⟨by rfl, by intro w hSw; (try dsimp only at hSw); go_simp⟩) (by assumption) rfl ?_
    simp only [Act.put, List.setIfInBounds_toArray, List.set_cons_zero, List.set_cons_succ]
    refine wpAnyH_ready (rs := [10]) (by kernel_rfl) (by simp) ?_
    refine AllReadyH.cons rfl (fun K hK => ?_) AllReadyH.nil
    have NQ := HQ.out w2 X2.out
    refine step_store_row rfl 26 (.tmp 22) (.tmp 21) rfl q #[.slice g1 n1 c1, .slice g2 n2 c2] rfl rfl 26 _ NQ HS2.out rfl (by simp [Value.oneCell']) rfl ?_
    obtain ⟨V, hV⟩ : ∃ X, w2.setRow q #[.slice g1 n1 c1, .slice g2 n2 c2] = X := ⟨_, rfl⟩
    have NV : Hid (V.heap[q]? = some (.cells #[.slice g1 n1 c1, .slice g2 n2 c2] 26 (0, 0))) := by show _ = _; rw [← hV]; exact setRow_heap _ _ _ _ _ _ NQ
    have HBV : Hid (Below q w V) := by show Below _ _ _; rw [← hV]; exact below_setRow (HB2.out.mono (Nat.le_of_lt hzq)) (Nat.le_refl _) _
    have HOV : Hid (RingOwn w.heap.size V.heap.size V (.agg #[.slice g1 n1 c1, .slice g2 n2 c2]) (longT x key fr)) := by
      show RingOwn _ _ _ _ _
      have h9 := HO2.out.setRow482 (q := q) (by omega) #[.slice g1 n1 c1, .slice g2 n2 c2]
      have hs : V.heap.size = w2.heap.size := by rw [← hV]; simp
      rw [hV] at h9
      rw [hs]
      obtain ⟨va, vn, hvv, k1, k2⟩ := h9
      exact ⟨va, vn, hvv, k1.weak hzw (Nat.le_refl _), k2.weak hzw (Nat.le_refl _)⟩
    obtain ⟨-, ⟨s2, s3, s4⟩⟩ := HCELL.out w2 X2.out
    have z2 : V.cell? ⟨w.heap.size, 0, none⟩ = some (.string key) := by rw [← hV, cell_setRow_other _ _ _ _ (by show w.heap.size ≠ q; omega)]; exact s2
    have z3 : V.cell? ⟨w.heap.size, 1, none⟩ = some (.int .i64 fr) := by rw [← hV, cell_setRow_other _ _ _ _ (by show w.heap.size ≠ q; omega)]; exact s3
    rw [hV]
    clear hV NQ s2 s3 s4
    refine hK.out _ _ ?_ (fun hHeld => ?_)
    · exact ⟨z2, z3⟩
    clear hK K z2 z3
    try simp only [Act.put, List.setIfInBounds_toArray, List.set_cons_zero, List.set_cons_succ]
    refine wpAnyH_done (by kernel_rfl) ?_ _
    go_wp2
    go_ret
    exact ⟨⟨fun _ => rfl, fun h => absurd (hB.symm.trans h) (by decide)⟩, fun h => absurd (hB.symm.trans h) (by decide), fun _ => ⟨_, _, NV.out, HOV.out⟩, HBV.out⟩
end Go.Proofs.YtdjpeickokoclaaDoor
/-
  A turn taken: impl.RingTake.
-/
namespace Go.Proofs.YtdjpeickokoclaaDoor
open Go.RowKit
set_option linter.unusedVariables false
theorem textsRow_set483 {lo hi q : Nat} {w : World} {v : Value} {xs : List ByteArray} (h : TextsRow lo hi w v xs) (hq : q < lo ∨ hi ≤ q) (cs : Array Value) : TextsRow lo hi (w.setRow q cs) v xs := ⟨h.1.block fun g h1 h2 _ _ _ => setRow_other _ _ _ _ (by omega), h.2⟩
theorem intsRow_set483 {lo hi q : Nat} {w : World} {v : Value} {xs : List Int} (h : IntsRow lo hi w v xs) (hq : q < lo ∨ hi ≤ q) (cs : Array Value) : IntsRow lo hi (w.setRow q cs) v xs := RowOwn.block h fun g h1 h2 _ _ _ => setRow_other _ _ _ _ (by omega)
set_option maxRecDepth 100000 in
set_option maxHeartbeats 8000000 in
theorem implRingTake_any (w : World) (v : Value) (x : RingM) (key : ByteArray) (fr : Int) (sl : ByteArray) (h : RingAt w v x) (hk : key.size ≤ 1100000) (h0 : -9223372036854775808 ≤ fr) (h1 : fr ≤ 9223372036854775807) (hP : powTab w) (hR : roundTab w) (hF : firstTab w) :
    Calls Tryd.prog 6 #[v, .agg #[.string key, .int .i64 fr, .string sl]] w fun e w' => ∃ v', e = .returned (.tuple #[v', .bool (rtkB x (key, fr, sl))]) ∧ RingOwn w.heap.size w'.heap.size w' v' (rtkT x (key, fr, sl)) ∧ Below w.heap.size w w' := by
  obtain ⟨a, l, cap, a', l', cap', rfl⟩ := h.form2
  have HR : Hid (RingAt w (.agg #[.slice a l cap, .slice a' l' cap']) x) := h
  obtain ⟨va, vn, hvv, ha, hn⟩ := h
  cases hvv
  have HA : Hid (TextsAt w (.slice a l cap) x.1) := ha
  have HN : Hid (IntsAt w (.slice a' l' cap') x.2) := hn
  have HTP : Hid (powTab w) := hP
  have HTR : Hid (roundTab w) := hR
  have HTF : Hid (firstTab w) := hF
  have HS2 : Hid ((Tryd.prog.info? 26).map (·.size) = some 2) := info_ring478
  obtain ⟨W, hW⟩ : ∃ W, ((w.alloc (.cells #[.slice a l cap, .slice a' l' cap'] 26)).alloc (.cells #[.string key, .int .i64 fr, .string sl] 28)).alloc (.cells #[.slice none 0 0, .slice none 0 0] 26) = W := ⟨_, rfl⟩
  have hz2 : ((w.alloc (.cells #[.slice a l cap, .slice a' l' cap'] 26)).alloc (.cells #[.string key, .int .i64 fr, .string sl] 28)).heap.size = w.heap.size + 1 + 1 := by simp
  have N0 : W.heap[w.heap.size]? = some (.cells #[.slice a l cap, .slice a' l' cap'] 26 (0, 0)) := by
    rw [← hW, Below.heap_alloc _ _ _ (by rw [hz2]; omega)]
    exact heap_alloc2_old _ _ _
  have N1 : W.heap[w.heap.size + 1]? = some (.cells #[.string key, .int .i64 fr, .string sl] 28 (0, 0)) := by
    rw [← hW, Below.heap_alloc _ _ _ (by rw [hz2]; omega)]
    exact heap_alloc2_new _ _ _
  have N2 : W.heap[w.heap.size + 1 + 1]? = some (.cells #[.slice none 0 0, .slice none 0 0] 26 (0, 0)) := by
    have h9 := heap_alloc_last ((w.alloc (.cells #[.slice a l cap, .slice a' l' cap'] 26)).alloc (.cells #[.string key, .int .i64 fr, .string sl] 28)) (.cells #[.slice none 0 0, .slice none 0 0] 26)
    rw [hz2, hW] at h9
    exact h9
  have HB0 : Hid (Below w.heap.size w W) := by show Below _ _ _; rw [← hW]; exact (((Below.refl _ _).alloc (Nat.le_refl _) _).alloc (by simp <;> omega) _).alloc (by simp <;> omega) _
  have hz9 : w.heap.size + 1 + 1 < W.heap.size := (Array.getElem?_eq_some_iff.1 N2).1
  have HW : Hid (((w.alloc (.cells #[.slice a l cap, .slice a' l' cap'] 26)).alloc (.cells #[.string key, .int .i64 fr, .string sl] 28)).alloc (.cells #[.slice none 0 0, .slice none 0 0] 26) = W) := hW
  have HN2 : Hid (∀ (V : World), Below W.heap.size W V → V.heap[w.heap.size + 1 + 1]? = some (.cells #[.slice none 0 0, .slice none 0 0] 26 (0, 0))) := fun V hV => (hV.block _ hz9).trans N2
  have HC : Hid (∀ (w : World) (v : Value) (x : RingM), RingAt w v x → Calls Tryd.prog 11 #[v] w fun e w' => e = .returned (.bool (ringOk x)) ∧ Below w.heap.size w w') := fun w v x h => implRingOk_any w v x h
  have HCELL : Hid (∀ (V : World), Below W.heap.size W V → (V.cell? ⟨w.heap.size, 0, none⟩ = some (.slice a l cap) ∧ V.cell? ⟨w.heap.size, 1, none⟩ = some (.slice a' l' cap')) ∧ (V.cell? ⟨w.heap.size + 1, 0, none⟩ = some (.string key) ∧ V.cell? ⟨w.heap.size + 1, 1, none⟩ = some (.int .i64 fr) ∧ V.cell? ⟨w.heap.size + 1, 2, none⟩ = some (.string sl)) ∧ (V.cell? ⟨w.heap.size + 1 + 1, 0, none⟩ = some (.slice none 0 0) ∧ V.cell? ⟨w.heap.size + 1 + 1, 1, none⟩ = some (.slice none 0 0)) ∧ ∀ i, V.frozen? ⟨w.heap.size + 1 + 1, i, none⟩ = false) := fun V hV => by
    have e0 : V.heap[w.heap.size]? = _ := (hV.block _ (by omega)).trans N0
    have e1 : V.heap[w.heap.size + 1]? = _ := (hV.block _ (by omega)).trans N1
    have e2 : V.heap[w.heap.size + 1 + 1]? = _ := (hV.block _ hz9).trans N2
    exact ⟨⟨by rw [cell_of_row _ _ 0 _ _ _ e0]; rfl, by rw [cell_of_row _ _ 1 _ _ _ e0]; rfl⟩, ⟨by rw [cell_of_row _ _ 0 _ _ _ e1]; rfl, by rw [cell_of_row _ _ 1 _ _ _ e1]; rfl, by rw [cell_of_row _ _ 2 _ _ _ e1]; rfl⟩, ⟨by rw [cell_of_row _ _ 0 _ _ _ e2]; rfl, by rw [cell_of_row _ _ 1 _ _ _ e2]; rfl⟩, fun i => frozen_of_row _ _ i _ _ e2⟩
  have HTK : Hid (∀ (w : World) (q : Nat) (v1 v2 : Value), w.heap[q]? = some (.cells #[v1, v2] 26 (0, 0)) → RingAt w (.agg #[v1, v2]) x → ringOk x = true → powTab w → roundTab w → firstTab w → Calls Tryd.prog 24 #[.pointer (some ⟨q, 0, none⟩), .agg #[.string key, .int .i64 fr, .string sl]] w fun e w' => ((rtkB x (key, fr, sl) = true → e = .returned .nilIface) ∧ (rtkB x (key, fr, sl) = false → ∃ T, e = .returned (.iface 93 T))) ∧ (rtkB x (key, fr, sl) = false → Below w.heap.size w w') ∧ (rtkB x (key, fr, sl) = true → ∃ u1 u2, w'.heap[q]? = some (.cells #[u1, u2] 26 (0, 0)) ∧ RingOwn w.heap.size w'.heap.size w' (.agg #[u1, u2]) (longT x key fr)) ∧ Below q w w') := fun w q v1 v2 hq h hok t0 t1 t2 => implTake_any w q v1 v2 x key fr sl hq h hok hk h0 h1 t0 t1 t2
  have hrt : rtkT x (key, fr, sl) = if ringOk x then (if rtkB x (key, fr, sl) then longT x key fr else x) else ([], []) := rfl
  obtain ⟨⟨s0, s1⟩, -, -, -⟩ := HCELL.out W (Below.refl _ _)
  clear hk h0 h1 hP hR hF hW N0 N1 N2 hz2 ha hn
  cases hok : ringOk x with
  | false =>
    have HMM : Hid (rtkB x (key, fr, sl) = false ∧ rtkT x (key, fr, sl) = ([], [])) := rtk_no1 _ hok
    clear hrt
    go_enter Tryd.func6, Tryd.ntmps6
    go_wp2_with fail
    try rw [HW.out]
    refine (HC.out _ _ x (HR.out.below HB0.out)).mono ?_
    rintro e w1 ⟨rfl, hb1⟩
    rw [hok]
    obtain ⟨-, -, ⟨d0, d1⟩, fz⟩ := HCELL.out w1 hb1
    have f0 := fz 0
    have f1 := fz 1
    have HB1 : Hid (Below w.heap.size w w1) := HB0.out.trans (hb1.mono (by omega))
    clear hb1 fz
    go_wp2
    refine bodyPost_ret (v := .tuple #[.agg #[.slice none 0 0, .slice none 0 0], .bool false]) (by simp [results, Tryd.results6, go_sem, d0, d1, World.cell?_setCell_same', World.cell?_setCell_other]) rfl ⟨_, by rw [HMM.out.1], by rw [HMM.out.2]; exact nilRing _, ?_⟩
    exact (HB1.out.setCell (p := ⟨w.heap.size + 1 + 1, 0, none⟩) (by show w.heap.size ≤ w.heap.size + 1 + 1; omega) _).setCell (p := ⟨w.heap.size + 1 + 1, 1, none⟩) (by show w.heap.size ≤ w.heap.size + 1 + 1; omega) _
  | true =>
    have HOK : Hid (ringOk x = true) := hok
    have HG : Hid (RingGood x) := ringOk_good hok
    have hl5 : x.1.length ≤ 5 := HG.out.2.1
    have hl8 : x.2.length ≤ 5 := by have := HG.out.2.2.1; omega
    have HRT : Hid (rtkT x (key, fr, sl) = if rtkB x (key, fr, sl) then longT x key fr else x) := by show _ = _; rw [hrt, hok]; rfl
    clear hrt
    go_enter Tryd.func6, Tryd.ntmps6
    go_wp2_with fail
    try rw [HW.out]
    refine (HC.out _ _ x (HR.out.below HB0.out)).mono ?_
    rintro e w1 ⟨rfl, hb1⟩
    rw [hok]
    clear hok
    have Xw1 : Hid (Below W.heap.size W w1) := hb1
    clear hb1 s0 s1
    obtain ⟨⟨t0, t1⟩, -, -, -⟩ := HCELL.out w1 Xw1.out
    go_wp2_with fail
    refine wp_region_held_drew (S := (fun w' => w'.cell? ⟨w.heap.size, 0, none⟩ = some (.slice a l cap) ∧ w'.cell? ⟨w.heap.size, 1, none⟩ = some (.slice a' l' cap'))) (by kernel_rfl) ?_ (fun hHeld => ?_)
    · exact ⟨t0, t1⟩
    refine wpAnyH_takeD (i := 0) (d := 12) (v := .pointer (some ⟨w.heap.size, 0, none⟩)) rfl (by kernel_rfl) (by kernel_rfl) (by kernel_rfl) (fun _ _ _ h => h) (Or.inl ⟨by rfl, by intro w hSw; (try dsimp only at hSw); go_simp⟩) (by assumption) rfl ?_
    simp only [Act.put, List.setIfInBounds_toArray, List.set_cons_zero, List.set_cons_succ]
    refine wpAnyH_takeD (i := 1) (d := 13) (v := .slice a l cap) rfl (by kernel_rfl) (by kernel_rfl) (by kernel_rfl) (fun _ _ _ h => h) (Or.inl ⟨by rfl, by intro w hSw; (try dsimp only at hSw); go_simp⟩) (by assumption) rfl ?_
    simp only [Act.put, List.setIfInBounds_toArray, List.set_cons_zero, List.set_cons_succ]
    refine wpAnyH_takeD (i := 3) (d := 15) (v := .pointer (some ⟨w.heap.size, 1, none⟩)) rfl (by kernel_rfl) (by kernel_rfl) (by kernel_rfl) (fun _ _ _ h => h) (Or.inl ⟨by rfl, by intro w hSw; (try dsimp only at hSw); go_simp⟩) (by assumption) rfl ?_
    simp only [Act.put, List.setIfInBounds_toArray, List.set_cons_zero, List.set_cons_succ]
    refine wpAnyH_takeD (i := 4) (d := 16) (v := (.slice a' l' cap')) rfl (by kernel_rfl) (by kernel_rfl) (by kernel_rfl) (fun _ _ _ h => h) (Or.inl ⟨by rfl, by intro w hSw; (try dsimp only at hSw); go_simp⟩) (by assumption) rfl ?_
    simp only [Act.put, List.setIfInBounds_toArray, List.set_cons_zero, List.set_cons_succ]
    obtain ⟨w2, hw2⟩ : ∃ X, World.drew w1 = X := ⟨_, rfl⟩
    have Xw2 : Hid (Below W.heap.size W w2) := by show Below _ _ _; rw [← hw2]; exact Xw1.out.drew
    rw [hw2]
    clear hw2 t0 t1
    refine wpAnyH_ready (rs := [2, 7]) (by kernel_rfl) (by simp) ?_
    refine AllReadyH.cons rfl (fun K hK => ?_) (AllReadyH.cons rfl (fun K hK => ?_) AllReadyH.nil)
    · skip
      go_simp
      refine (copyOfT_any _ _ x.1 (HA.out.below (HB0.out.trans (Xw2.out.mono HB0.out.size))) (by omega)).mono ?_
      rintro e w3 ⟨u1, rfl, ho, hb⟩
      have hsw3 : w2.heap.size ≤ w3.heap.size := hb.size
      have Kw3 : Hid (Below w2.heap.size w2 w3) := hb
      have Xw3 : Hid (Below W.heap.size W w3) := Xw2.out.trans (hb.mono Xw2.out.size)
      have Ru1w3 : Hid (TextsRow w2.heap.size w3.heap.size w3 u1 x.1) := textsRow_of_owns ho rfl (good_fit HG.out)
      clear ho hb
      obtain ⟨⟨t0, t1⟩, -, -, -⟩ := HCELL.out w3 Xw3.out
      refine hK.out _ _ ?_ (fun hHeld => ?_)
      · exact ⟨t0, t1⟩
      clear hK K t0 t1
      try simp only [Act.put, List.setIfInBounds_toArray, List.set_cons_zero, List.set_cons_succ]
      refine wpAnyH_ready (rs := [5, 7]) (by kernel_rfl) (by simp) ?_
      refine AllReadyH.cons rfl (fun K hK => ?_) (AllReadyH.cons rfl (fun K hK => ?_) AllReadyH.nil)
      · skip
        go_simp
        refine (copyOfI_any _ _ x.2 (HN.out.below (HB0.out.trans (Xw3.out.mono HB0.out.size))) (by omega)).mono ?_
        rintro e w4 ⟨u2, rfl, ho, hb⟩
        have hsw4 : w3.heap.size ≤ w4.heap.size := hb.size
        have Kw4 : Hid (Below w3.heap.size w3 w4) := hb
        have Xw4 : Hid (Below W.heap.size W w4) := Xw3.out.trans (hb.mono Xw3.out.size)
        have Ru2w4 : Hid (IntsRow w3.heap.size w4.heap.size w4 u2 x.2) := intsRow_of_owns ho rfl 
        clear ho hb
        have Ru1w4 : Hid (TextsRow w2.heap.size w3.heap.size w4 u1 x.1) := Ru1w3.out.below Kw4.out
        obtain ⟨⟨t0, t1⟩, -, -, -⟩ := HCELL.out w4 Xw4.out
        refine hK.out _ _ ?_ (fun hHeld => ?_)
        · exact ⟨t0, t1⟩
        clear hK K t0 t1
        try simp only [Act.put, List.setIfInBounds_toArray, List.set_cons_zero, List.set_cons_succ]
        obtain ⟨ga, ca, rfl, -, -⟩ := Ru1w4.out.1.form
        obtain ⟨gb, cb, rfl, -, -⟩ := RowOwn.form Ru2w4.out
        refine wpAnyH_takeD (i := 6) (d := 18) (v := .agg #[.slice ga x.1.length ca, .slice gb x.2.length cb]) rfl (by kernel_rfl) (by kernel_rfl) (by kernel_rfl) (fun _ _ _ h => h) (Or.inl ⟨by rfl, by intro w hSw; (try dsimp only at hSw); go_simp⟩) (by assumption) rfl ?_
        simp only [Act.put, List.setIfInBounds_toArray, List.set_cons_zero, List.set_cons_succ]
        refine wpAnyH_ready (rs := [7]) (by kernel_rfl) (by simp) ?_
        refine AllReadyH.cons rfl (fun K hK => ?_) AllReadyH.nil
        go_simp
        have NA : Hid ((w4.alloc (.cells #[.slice none 0 0, .slice none 0 0] 26)).heap[w4.heap.size]? = some (.cells #[.slice none 0 0, .slice none 0 0] 26 (0, 0))) := heap_alloc_last _ _
        obtain ⟨w5, hw5⟩ : ∃ X, w4.alloc (.cells #[.slice none 0 0, .slice none 0 0] 26) = X := ⟨_, rfl⟩
        have hsw5 : w4.heap.size < w5.heap.size := by rw [← hw5]; simp
        have Kw5 : Hid (Below w4.heap.size w4 w5) := by show Below _ _ _; rw [← hw5]; exact (Below.refl _ _).alloc (Nat.le_refl _) _
        have Xw5 : Hid (Below W.heap.size W w5) := Xw4.out.trans (Kw5.out.mono Xw4.out.size)
        have Nw5 : Hid (w5.heap[w4.heap.size]? = some (.cells #[.slice none 0 0, .slice none 0 0] 26 (0, 0))) := by show _ = _; rw [← hw5]; exact NA.out
        rw [hw5]
        clear hw5 NA
        have Ru1w5 : Hid (TextsRow w2.heap.size w3.heap.size w5 (.slice ga x.1.length ca) x.1) := Ru1w4.out.below Kw5.out
        have Ru2w5 : Hid (IntsRow w3.heap.size w4.heap.size w5 (.slice gb x.2.length cb) x.2) := Ru2w4.out.below Kw5.out
        obtain ⟨⟨t0, t1⟩, -, -, -⟩ := HCELL.out w5 Xw5.out
        refine hK.out _ _ ?_ (fun hHeld => ?_)
        · exact ⟨t0, t1⟩
        clear hK K t0 t1
        try simp only [Act.put, List.setIfInBounds_toArray, List.set_cons_zero, List.set_cons_succ]
        refine wpAnyH_ready (rs := [8]) (by kernel_rfl) (by simp) ?_
        refine AllReadyH.cons rfl (fun K hK => ?_) AllReadyH.nil
        refine step_store_row rfl 26 (.tmp 6) (.tmp 18) rfl (w4.heap.size) #[.slice ga x.1.length ca, .slice gb x.2.length cb] rfl rfl 26 _ Nw5.out HS2.out rfl (by simp [Value.oneCell']) rfl ?_
        have hqW : W.heap.size ≤ w4.heap.size := by have := Xw2.out.size; omega
        obtain ⟨Q, hQ⟩ : ∃ q, w4.heap.size = q := ⟨_, rfl⟩
        have hQS : Q < w5.heap.size := by rw [← hQ]; exact lt_of_block405 Nw5.out
        obtain ⟨V, hV⟩ : ∃ X, w5.setRow (w4.heap.size) #[.slice ga x.1.length ca, .slice gb x.2.length cb] = X := ⟨_, rfl⟩
        have XV : Hid (Below W.heap.size W V) := by show Below _ _ _; rw [← hV]; exact below_setRow Xw5.out hqW _
        have NV : Hid (V.heap[Q]? = some (.cells #[.slice ga x.1.length ca, .slice gb x.2.length cb] 26 (0, 0))) := by show _ = _; rw [← hV, ← hQ]; exact setRow_heap _ _ _ _ _ _ Nw5.out
        have hVs : V.heap.size = w5.heap.size := by rw [← hV]; simp
        have OV : Hid (RingOwn W.heap.size V.heap.size V (.agg #[.slice ga x.1.length ca, .slice gb x.2.length cb]) x) := by
          show RingOwn _ _ _ _ _
          have z1 := Xw2.out.size
          rw [← hV]
          exact ring_of_rows (ks := x.1) (ns := x.2) (TextsRow.weak (textsRow_set483 Ru1w5.out (by omega) _) (by omega) (by simp <;> omega)) (RowOwn.weak (intsRow_set483 Ru2w5.out (by omega) _) (by omega) (by simp <;> omega))
        rw [hV, hQ]
        rw [hQ] at hqW
        clear hV hQ hVs
        obtain ⟨⟨t0, t1⟩, -, -, -⟩ := HCELL.out V XV.out
        refine hK.out _ _ ?_ (fun hHeld => ?_)
        · exact ⟨t0, t1⟩
        clear hK K t0 t1
        try simp only [Act.put, List.setIfInBounds_toArray, List.set_cons_zero, List.set_cons_succ]
        refine wpAnyH_done (by kernel_rfl) ?_ _
        obtain ⟨-, ⟨b0, b1, b2⟩, -, -⟩ := HCELL.out V XV.out
        have HBV : Hid (Below w.heap.size w V) := HB0.out.trans (XV.out.mono HB0.out.size)
        go_wp2_with fail
        refine (HTK.out V Q _ _ NV.out OV.out.at HOK.out (HTP.out.below HBV.out) (HTR.out.below HBV.out) (HTF.out.below HBV.out)).mono ?_
        rintro e w5 ⟨⟨hy, hn⟩, hbF, hbT, hbq⟩
        have HQ5 : Hid (Below Q V w5) := hbq
        have hQn : w.heap.size + 1 + 1 < Q := by omega
        have NR5 : Hid (w5.heap[w.heap.size + 1 + 1]? = some (.cells #[.slice none 0 0, .slice none 0 0] 26 (0, 0))) := (HQ5.out.block _ hQn).trans (HN2.out V XV.out)
        have HB5 : Hid (Below w.heap.size w w5) := HBV.out.trans (HQ5.out.mono (by omega))
        have hzV : W.heap.size ≤ V.heap.size := XV.out.size
        have hz5 : V.heap.size ≤ w5.heap.size := HQ5.out.size
        clear b0 b1 b2 hbq
        cases hB : rtkB x (key, fr, sl) with
        | false =>
          obtain ⟨T, rfl⟩ := hn hB
          have K5 : Hid (Below V.heap.size V w5) := hbF hB
          have NQ5 : Hid (w5.heap[Q]? = some (.cells #[.slice ga x.1.length ca, .slice gb x.2.length cb] 26 (0, 0))) := (K5.out.block _ (lt_of_block405 NV.out)).trans NV.out
          have O5 : Hid (RingOwn (w.heap.size + 1 + 1 + 1) w5.heap.size w5 (.agg #[.slice ga x.1.length ca, .slice gb x.2.length cb]) x) := by
            show RingOwn _ _ _ _ _
            obtain ⟨va, vn, hvv, k1, k2⟩ := OV.out.below K5.out
            exact ⟨va, vn, hvv, k1.weak (by omega) (by omega), k2.weak (by omega) (by omega)⟩
          clear hy hn hbF hbT
          have qc0 : w5.cell? ⟨Q, 0, none⟩ = some (.slice ga x.1.length ca) := by rw [cell_of_row _ _ 0 _ _ _ NQ5.out]; rfl
          have qc1 : w5.cell? ⟨Q, 1, none⟩ = some (.slice gb x.2.length cb) := by rw [cell_of_row _ _ 1 _ _ _ NQ5.out]; rfl
          go_wp2_with fail
          refine wp_region_held_drew (S := (fun w' => w'.cell? ⟨Q, 0, none⟩ = some (.slice ga x.1.length ca) ∧ w'.cell? ⟨Q, 1, none⟩ = some (.slice gb x.2.length cb))) (by kernel_rfl) ?_ (fun hHeld => ?_)
          · exact ⟨qc0, qc1⟩
          refine wpAnyH_takeD (i := 0) (d := 21) (v := .agg #[.slice ga x.1.length ca, .slice gb x.2.length cb]) rfl (by kernel_rfl) (by kernel_rfl) (by kernel_rfl) (fun _ _ _ h => h) (Or.inl ⟨by rfl, by intro w hSw; (try dsimp only at hSw); go_simp⟩) (by assumption) rfl ?_
          simp only [Act.put, List.setIfInBounds_toArray, List.set_cons_zero, List.set_cons_succ]
          refine wpAnyH_takeD (i := 1) (d := 22) (v := .iface 93 T) rfl (by kernel_rfl) (by kernel_rfl) (by kernel_rfl) (fun _ _ _ h => h) (Or.inl ⟨by rfl, by intro w hSw; (try dsimp only at hSw); go_simp⟩) (by assumption) rfl ?_
          simp only [Act.put, List.setIfInBounds_toArray, List.set_cons_zero, List.set_cons_succ]
          refine wpAnyH_takeD (i := 2) (d := 23) (v := .bool false) rfl (by kernel_rfl) (by kernel_rfl) (by kernel_rfl) (fun _ _ _ h => h) (Or.inl ⟨by rfl, by intro w hSw; (try dsimp only at hSw); go_simp⟩) (by assumption) rfl ?_
          simp only [Act.put, List.setIfInBounds_toArray, List.set_cons_zero, List.set_cons_succ]
          obtain ⟨w6, hw6⟩ : ∃ X, World.drew w5 = X := ⟨_, rfl⟩
          have K6 : Hid (Below w5.heap.size w5 w6) := by show Below _ _ _; rw [← hw6]; exact (Below.refl _ _).drew
          have NR6 : Hid (w6.heap[w.heap.size + 1 + 1]? = some (.cells #[.slice none 0 0, .slice none 0 0] 26 (0, 0))) := by show _ = _; rw [← hw6]; exact NR5.out
          have NQ6 : Hid (w6.heap[Q]? = some (.cells #[.slice ga x.1.length ca, .slice gb x.2.length cb] 26 (0, 0))) := by show _ = _; rw [← hw6]; exact NQ5.out
          have hz6 : w5.heap.size ≤ w6.heap.size := K6.out.size
          rw [hw6]
          clear hw6 qc0 qc1
          refine wpAnyH_ready (rs := [3]) (by kernel_rfl) (by simp) ?_
          refine AllReadyH.cons rfl (fun K hK => ?_) AllReadyH.nil
          refine step_store_row rfl 26 (.tmp 4) (.tmp 21) rfl (w.heap.size + 1 + 1) #[.slice ga x.1.length ca, .slice gb x.2.length cb] rfl rfl 26 _ NR6.out HS2.out rfl (by simp [Value.oneCell']) rfl ?_
          obtain ⟨V6, hV6⟩ : ∃ X, w6.setRow (w.heap.size + 1 + 1) #[.slice ga x.1.length ca, .slice gb x.2.length cb] = X := ⟨_, rfl⟩
          have r6 : V6.heap[w.heap.size + 1 + 1]? = some (.cells #[.slice ga x.1.length ca, .slice gb x.2.length cb] 26 (0, 0)) := by rw [← hV6]; exact setRow_heap _ _ _ _ _ _ NR6.out
          have q6 : V6.heap[Q]? = some (.cells #[.slice ga x.1.length ca, .slice gb x.2.length cb] 26 (0, 0)) := by rw [← hV6, setRow_other _ _ _ _ (by omega)]; exact NQ6.out
          have HB6 : Hid (Below w.heap.size w V6) := by show Below _ _ _; rw [← hV6]; exact below_setRow (HB5.out.trans (K6.out.mono HB5.out.size)) (by omega) _
          have O6 : Hid (RingOwn w.heap.size V6.heap.size V6 (.agg #[.slice ga x.1.length ca, .slice gb x.2.length cb]) x) := by
            show RingOwn _ _ _ _ _
            have hs : V6.heap.size = w6.heap.size := by rw [← hV6]; simp
            obtain ⟨va, vn, hvv, k1, k2⟩ := (O5.out.below K6.out).setRow482 (q := w.heap.size + 1 + 1) (by omega) #[.slice ga x.1.length ca, .slice gb x.2.length cb]
            rw [hV6] at k1 k2
            exact ⟨va, vn, hvv, k1.weak (by omega) (by omega), k2.weak (by omega) (by omega)⟩
          have r0 : V6.cell? ⟨w.heap.size + 1 + 1, 0, none⟩ = some (.slice ga x.1.length ca) := by rw [cell_of_row _ _ 0 _ _ _ r6]; rfl
          have r1 : V6.cell? ⟨w.heap.size + 1 + 1, 1, none⟩ = some (.slice gb x.2.length cb) := by rw [cell_of_row _ _ 1 _ _ _ r6]; rfl
          have qc0 : V6.cell? ⟨Q, 0, none⟩ = some (.slice ga x.1.length ca) := by rw [cell_of_row _ _ 0 _ _ _ q6]; rfl
          have qc1 : V6.cell? ⟨Q, 1, none⟩ = some (.slice gb x.2.length cb) := by rw [cell_of_row _ _ 1 _ _ _ q6]; rfl
          rw [hV6]
          clear hV6 r6 q6
          refine hK.out _ _ ?_ (fun hHeld => ?_)
          · exact ⟨qc0, qc1⟩
          clear hK K
          try simp only [Act.put, List.setIfInBounds_toArray, List.set_cons_zero, List.set_cons_succ]
          refine wpAnyH_takeD (i := 4) (d := 5) (v := .bool false) rfl (by kernel_rfl) (by kernel_rfl) (by kernel_rfl) (fun _ _ _ h => h) (Or.inl ⟨by rfl, by intro w hSw; (try dsimp only at hSw); go_simp⟩) (by assumption) rfl ?_
          simp only [Act.put, List.setIfInBounds_toArray, List.set_cons_zero, List.set_cons_succ]
          refine wpAnyH_done (by kernel_rfl) ?_ _
          go_wp2
          refine bodyPost_ret (v := .tuple #[.agg #[.slice ga x.1.length ca, .slice gb x.2.length cb], .bool false]) (by simp [results, Tryd.results6, go_sem, r0, r1]) rfl ⟨_, by rw [hB], ?_, HB6.out⟩
          rw [HRT.out, hB]
          exact O6.out
        | true =>
          have he := hy hB
          subst he
          obtain ⟨u1, u2, hnq, ho⟩ := hbT hB
          obtain ⟨g1, n1, c1, g2, n2, c2, hv⟩ := ho.at.form2
          cases hv
          have NQ5 : Hid (w5.heap[Q]? = some (.cells #[.slice g1 n1 c1, .slice g2 n2 c2] 26 (0, 0))) := hnq
          have O5 : Hid (RingOwn (w.heap.size + 1 + 1 + 1) w5.heap.size w5 (.agg #[.slice g1 n1 c1, .slice g2 n2 c2]) (longT x key fr)) := by
            show RingOwn _ _ _ _ _
            obtain ⟨va, vn, hvv, k1, k2⟩ := ho
            exact ⟨va, vn, hvv, k1.weak (by omega) (by omega), k2.weak (by omega) (by omega)⟩
          clear hy hn hbF hbT hnq ho
          have qc0 : w5.cell? ⟨Q, 0, none⟩ = some (.slice g1 n1 c1) := by rw [cell_of_row _ _ 0 _ _ _ NQ5.out]; rfl
          have qc1 : w5.cell? ⟨Q, 1, none⟩ = some (.slice g2 n2 c2) := by rw [cell_of_row _ _ 1 _ _ _ NQ5.out]; rfl
          go_wp2_with fail
          refine wp_region_held_drew (S := (fun w' => w'.cell? ⟨Q, 0, none⟩ = some (.slice g1 n1 c1) ∧ w'.cell? ⟨Q, 1, none⟩ = some (.slice g2 n2 c2))) (by kernel_rfl) ?_ (fun hHeld => ?_)
          · exact ⟨qc0, qc1⟩
          refine wpAnyH_takeD (i := 0) (d := 21) (v := .agg #[.slice g1 n1 c1, .slice g2 n2 c2]) rfl (by kernel_rfl) (by kernel_rfl) (by kernel_rfl) (fun _ _ _ h => h) (Or.inl ⟨by rfl, by intro w hSw; (try dsimp only at hSw); go_simp⟩) (by assumption) rfl ?_
          simp only [Act.put, List.setIfInBounds_toArray, List.set_cons_zero, List.set_cons_succ]
          refine wpAnyH_takeD (i := 1) (d := 22) (v := .nilIface) rfl (by kernel_rfl) (by kernel_rfl) (by kernel_rfl) (fun _ _ _ h => h) (Or.inl ⟨by rfl, by intro w hSw; (try dsimp only at hSw); go_simp⟩) (by assumption) rfl ?_
          simp only [Act.put, List.setIfInBounds_toArray, List.set_cons_zero, List.set_cons_succ]
          refine wpAnyH_takeD (i := 2) (d := 23) (v := .bool true) rfl (by kernel_rfl) (by kernel_rfl) (by kernel_rfl) (fun _ _ _ h => h) (Or.inl ⟨by rfl, by intro w hSw; (try dsimp only at hSw); go_simp⟩) (by assumption) rfl ?_
          simp only [Act.put, List.setIfInBounds_toArray, List.set_cons_zero, List.set_cons_succ]
          obtain ⟨w6, hw6⟩ : ∃ X, World.drew w5 = X := ⟨_, rfl⟩
          have K6 : Hid (Below w5.heap.size w5 w6) := by show Below _ _ _; rw [← hw6]; exact (Below.refl _ _).drew
          have NR6 : Hid (w6.heap[w.heap.size + 1 + 1]? = some (.cells #[.slice none 0 0, .slice none 0 0] 26 (0, 0))) := by show _ = _; rw [← hw6]; exact NR5.out
          have NQ6 : Hid (w6.heap[Q]? = some (.cells #[.slice g1 n1 c1, .slice g2 n2 c2] 26 (0, 0))) := by show _ = _; rw [← hw6]; exact NQ5.out
          have hz6 : w5.heap.size ≤ w6.heap.size := K6.out.size
          rw [hw6]
          clear hw6 qc0 qc1
          refine wpAnyH_ready (rs := [3]) (by kernel_rfl) (by simp) ?_
          refine AllReadyH.cons rfl (fun K hK => ?_) AllReadyH.nil
          refine step_store_row rfl 26 (.tmp 4) (.tmp 21) rfl (w.heap.size + 1 + 1) #[.slice g1 n1 c1, .slice g2 n2 c2] rfl rfl 26 _ NR6.out HS2.out rfl (by simp [Value.oneCell']) rfl ?_
          obtain ⟨V6, hV6⟩ : ∃ X, w6.setRow (w.heap.size + 1 + 1) #[.slice g1 n1 c1, .slice g2 n2 c2] = X := ⟨_, rfl⟩
          have r6 : V6.heap[w.heap.size + 1 + 1]? = some (.cells #[.slice g1 n1 c1, .slice g2 n2 c2] 26 (0, 0)) := by rw [← hV6]; exact setRow_heap _ _ _ _ _ _ NR6.out
          have q6 : V6.heap[Q]? = some (.cells #[.slice g1 n1 c1, .slice g2 n2 c2] 26 (0, 0)) := by rw [← hV6, setRow_other _ _ _ _ (by omega)]; exact NQ6.out
          have HB6 : Hid (Below w.heap.size w V6) := by show Below _ _ _; rw [← hV6]; exact below_setRow (HB5.out.trans (K6.out.mono HB5.out.size)) (by omega) _
          have O6 : Hid (RingOwn w.heap.size V6.heap.size V6 (.agg #[.slice g1 n1 c1, .slice g2 n2 c2]) (longT x key fr)) := by
            show RingOwn _ _ _ _ _
            have hs : V6.heap.size = w6.heap.size := by rw [← hV6]; simp
            obtain ⟨va, vn, hvv, k1, k2⟩ := (O5.out.below K6.out).setRow482 (q := w.heap.size + 1 + 1) (by omega) #[.slice g1 n1 c1, .slice g2 n2 c2]
            rw [hV6] at k1 k2
            exact ⟨va, vn, hvv, k1.weak (by omega) (by omega), k2.weak (by omega) (by omega)⟩
          have r0 : V6.cell? ⟨w.heap.size + 1 + 1, 0, none⟩ = some (.slice g1 n1 c1) := by rw [cell_of_row _ _ 0 _ _ _ r6]; rfl
          have r1 : V6.cell? ⟨w.heap.size + 1 + 1, 1, none⟩ = some (.slice g2 n2 c2) := by rw [cell_of_row _ _ 1 _ _ _ r6]; rfl
          have qc0 : V6.cell? ⟨Q, 0, none⟩ = some (.slice g1 n1 c1) := by rw [cell_of_row _ _ 0 _ _ _ q6]; rfl
          have qc1 : V6.cell? ⟨Q, 1, none⟩ = some (.slice g2 n2 c2) := by rw [cell_of_row _ _ 1 _ _ _ q6]; rfl
          rw [hV6]
          clear hV6 r6 q6
          refine hK.out _ _ ?_ (fun hHeld => ?_)
          · exact ⟨qc0, qc1⟩
          clear hK K
          try simp only [Act.put, List.setIfInBounds_toArray, List.set_cons_zero, List.set_cons_succ]
          refine wpAnyH_takeD (i := 4) (d := 5) (v := .bool true) rfl (by kernel_rfl) (by kernel_rfl) (by kernel_rfl) (fun _ _ _ h => h) (Or.inl ⟨by rfl, by intro w hSw; (try dsimp only at hSw); go_simp⟩) (by assumption) rfl ?_
          simp only [Act.put, List.setIfInBounds_toArray, List.set_cons_zero, List.set_cons_succ]
          refine wpAnyH_done (by kernel_rfl) ?_ _
          go_wp2
          refine bodyPost_ret (v := .tuple #[.agg #[.slice g1 n1 c1, .slice g2 n2 c2], .bool true]) (by simp [results, Tryd.results6, go_sem, r0, r1]) rfl ⟨_, by rw [hB], ?_, HB6.out⟩
          rw [HRT.out, hB]
          exact O6.out
      · skip
        go_simp
        have NA : Hid ((w3.alloc (.cells #[.slice none 0 0, .slice none 0 0] 26)).heap[w3.heap.size]? = some (.cells #[.slice none 0 0, .slice none 0 0] 26 (0, 0))) := heap_alloc_last _ _
        obtain ⟨w4, hw4⟩ : ∃ X, w3.alloc (.cells #[.slice none 0 0, .slice none 0 0] 26) = X := ⟨_, rfl⟩
        have hsw4 : w3.heap.size < w4.heap.size := by rw [← hw4]; simp
        have Kw4 : Hid (Below w3.heap.size w3 w4) := by show Below _ _ _; rw [← hw4]; exact (Below.refl _ _).alloc (Nat.le_refl _) _
        have Xw4 : Hid (Below W.heap.size W w4) := Xw3.out.trans (Kw4.out.mono Xw3.out.size)
        have Nw4 : Hid (w4.heap[w3.heap.size]? = some (.cells #[.slice none 0 0, .slice none 0 0] 26 (0, 0))) := by show _ = _; rw [← hw4]; exact NA.out
        rw [hw4]
        clear hw4 NA
        have Ru1w4 : Hid (TextsRow w2.heap.size w3.heap.size w4 u1 x.1) := Ru1w3.out.below Kw4.out
        obtain ⟨⟨t0, t1⟩, -, -, -⟩ := HCELL.out w4 Xw4.out
        refine hK.out _ _ ?_ (fun hHeld => ?_)
        · exact ⟨t0, t1⟩
        clear hK K t0 t1
        try simp only [Act.put, List.setIfInBounds_toArray, List.set_cons_zero, List.set_cons_succ]
        refine wpAnyH_ready (rs := [5]) (by kernel_rfl) (by simp) ?_
        refine AllReadyH.cons rfl (fun K hK => ?_) AllReadyH.nil
        go_simp
        refine (copyOfI_any _ _ x.2 (HN.out.below (HB0.out.trans (Xw4.out.mono HB0.out.size))) (by omega)).mono ?_
        rintro e w5 ⟨u2, rfl, ho, hb⟩
        have hsw5 : w4.heap.size ≤ w5.heap.size := hb.size
        have Kw5 : Hid (Below w4.heap.size w4 w5) := hb
        have Xw5 : Hid (Below W.heap.size W w5) := Xw4.out.trans (hb.mono Xw4.out.size)
        have Ru2w5 : Hid (IntsRow w4.heap.size w5.heap.size w5 u2 x.2) := intsRow_of_owns ho rfl 
        clear ho hb
        have Nw5 : Hid (w5.heap[w3.heap.size]? = some (.cells #[.slice none 0 0, .slice none 0 0] 26 (0, 0))) := (Kw5.out.block _ (lt_of_block405 Nw4.out)).trans Nw4.out
        have Ru1w5 : Hid (TextsRow w2.heap.size w3.heap.size w5 u1 x.1) := Ru1w4.out.below Kw5.out
        obtain ⟨⟨t0, t1⟩, -, -, -⟩ := HCELL.out w5 Xw5.out
        refine hK.out _ _ ?_ (fun hHeld => ?_)
        · exact ⟨t0, t1⟩
        clear hK K t0 t1
        try simp only [Act.put, List.setIfInBounds_toArray, List.set_cons_zero, List.set_cons_succ]
        obtain ⟨ga, ca, rfl, -, -⟩ := Ru1w5.out.1.form
        obtain ⟨gb, cb, rfl, -, -⟩ := RowOwn.form Ru2w5.out
        refine wpAnyH_takeD (i := 6) (d := 18) (v := .agg #[.slice ga x.1.length ca, .slice gb x.2.length cb]) rfl (by kernel_rfl) (by kernel_rfl) (by kernel_rfl) (fun _ _ _ h => h) (Or.inl ⟨by rfl, by intro w hSw; (try dsimp only at hSw); go_simp⟩) (by assumption) rfl ?_
        simp only [Act.put, List.setIfInBounds_toArray, List.set_cons_zero, List.set_cons_succ]
        refine wpAnyH_ready (rs := [8]) (by kernel_rfl) (by simp) ?_
        refine AllReadyH.cons rfl (fun K hK => ?_) AllReadyH.nil
        refine step_store_row rfl 26 (.tmp 6) (.tmp 18) rfl (w3.heap.size) #[.slice ga x.1.length ca, .slice gb x.2.length cb] rfl rfl 26 _ Nw5.out HS2.out rfl (by simp [Value.oneCell']) rfl ?_
        have hqW : W.heap.size ≤ w3.heap.size := by have := Xw2.out.size; omega
        obtain ⟨Q, hQ⟩ : ∃ q, w3.heap.size = q := ⟨_, rfl⟩
        have hQS : Q < w5.heap.size := by rw [← hQ]; exact lt_of_block405 Nw5.out
        obtain ⟨V, hV⟩ : ∃ X, w5.setRow (w3.heap.size) #[.slice ga x.1.length ca, .slice gb x.2.length cb] = X := ⟨_, rfl⟩
        have XV : Hid (Below W.heap.size W V) := by show Below _ _ _; rw [← hV]; exact below_setRow Xw5.out hqW _
        have NV : Hid (V.heap[Q]? = some (.cells #[.slice ga x.1.length ca, .slice gb x.2.length cb] 26 (0, 0))) := by show _ = _; rw [← hV, ← hQ]; exact setRow_heap _ _ _ _ _ _ Nw5.out
        have hVs : V.heap.size = w5.heap.size := by rw [← hV]; simp
        have OV : Hid (RingOwn W.heap.size V.heap.size V (.agg #[.slice ga x.1.length ca, .slice gb x.2.length cb]) x) := by
          show RingOwn _ _ _ _ _
          have z1 := Xw2.out.size
          rw [← hV]
          exact ring_of_rows (ks := x.1) (ns := x.2) (TextsRow.weak (textsRow_set483 Ru1w5.out (by omega) _) (by omega) (by simp <;> omega)) (RowOwn.weak (intsRow_set483 Ru2w5.out (by omega) _) (by omega) (by simp <;> omega))
        rw [hV, hQ]
        rw [hQ] at hqW
        clear hV hQ hVs
        obtain ⟨⟨t0, t1⟩, -, -, -⟩ := HCELL.out V XV.out
        refine hK.out _ _ ?_ (fun hHeld => ?_)
        · exact ⟨t0, t1⟩
        clear hK K t0 t1
        try simp only [Act.put, List.setIfInBounds_toArray, List.set_cons_zero, List.set_cons_succ]
        refine wpAnyH_done (by kernel_rfl) ?_ _
        obtain ⟨-, ⟨b0, b1, b2⟩, -, -⟩ := HCELL.out V XV.out
        have HBV : Hid (Below w.heap.size w V) := HB0.out.trans (XV.out.mono HB0.out.size)
        go_wp2_with fail
        refine (HTK.out V Q _ _ NV.out OV.out.at HOK.out (HTP.out.below HBV.out) (HTR.out.below HBV.out) (HTF.out.below HBV.out)).mono ?_
        rintro e w5 ⟨⟨hy, hn⟩, hbF, hbT, hbq⟩
        have HQ5 : Hid (Below Q V w5) := hbq
        have hQn : w.heap.size + 1 + 1 < Q := by omega
        have NR5 : Hid (w5.heap[w.heap.size + 1 + 1]? = some (.cells #[.slice none 0 0, .slice none 0 0] 26 (0, 0))) := (HQ5.out.block _ hQn).trans (HN2.out V XV.out)
        have HB5 : Hid (Below w.heap.size w w5) := HBV.out.trans (HQ5.out.mono (by omega))
        have hzV : W.heap.size ≤ V.heap.size := XV.out.size
        have hz5 : V.heap.size ≤ w5.heap.size := HQ5.out.size
        clear b0 b1 b2 hbq
        cases hB : rtkB x (key, fr, sl) with
        | false =>
          obtain ⟨T, rfl⟩ := hn hB
          have K5 : Hid (Below V.heap.size V w5) := hbF hB
          have NQ5 : Hid (w5.heap[Q]? = some (.cells #[.slice ga x.1.length ca, .slice gb x.2.length cb] 26 (0, 0))) := (K5.out.block _ (lt_of_block405 NV.out)).trans NV.out
          have O5 : Hid (RingOwn (w.heap.size + 1 + 1 + 1) w5.heap.size w5 (.agg #[.slice ga x.1.length ca, .slice gb x.2.length cb]) x) := by
            show RingOwn _ _ _ _ _
            obtain ⟨va, vn, hvv, k1, k2⟩ := OV.out.below K5.out
            exact ⟨va, vn, hvv, k1.weak (by omega) (by omega), k2.weak (by omega) (by omega)⟩
          clear hy hn hbF hbT
          have qc0 : w5.cell? ⟨Q, 0, none⟩ = some (.slice ga x.1.length ca) := by rw [cell_of_row _ _ 0 _ _ _ NQ5.out]; rfl
          have qc1 : w5.cell? ⟨Q, 1, none⟩ = some (.slice gb x.2.length cb) := by rw [cell_of_row _ _ 1 _ _ _ NQ5.out]; rfl
          go_wp2_with fail
          refine wp_region_held_drew (S := (fun w' => w'.cell? ⟨Q, 0, none⟩ = some (.slice ga x.1.length ca) ∧ w'.cell? ⟨Q, 1, none⟩ = some (.slice gb x.2.length cb))) (by kernel_rfl) ?_ (fun hHeld => ?_)
          · exact ⟨qc0, qc1⟩
          refine wpAnyH_takeD (i := 0) (d := 21) (v := .agg #[.slice ga x.1.length ca, .slice gb x.2.length cb]) rfl (by kernel_rfl) (by kernel_rfl) (by kernel_rfl) (fun _ _ _ h => h) (Or.inl ⟨by rfl, by intro w hSw; (try dsimp only at hSw); go_simp⟩) (by assumption) rfl ?_
          simp only [Act.put, List.setIfInBounds_toArray, List.set_cons_zero, List.set_cons_succ]
          refine wpAnyH_takeD (i := 1) (d := 22) (v := .iface 93 T) rfl (by kernel_rfl) (by kernel_rfl) (by kernel_rfl) (fun _ _ _ h => h) (Or.inl ⟨by rfl, by intro w hSw; (try dsimp only at hSw); go_simp⟩) (by assumption) rfl ?_
          simp only [Act.put, List.setIfInBounds_toArray, List.set_cons_zero, List.set_cons_succ]
          refine wpAnyH_takeD (i := 2) (d := 23) (v := .bool false) rfl (by kernel_rfl) (by kernel_rfl) (by kernel_rfl) (fun _ _ _ h => h) (Or.inl ⟨by rfl, by intro w hSw; (try dsimp only at hSw); go_simp⟩) (by assumption) rfl ?_
          simp only [Act.put, List.setIfInBounds_toArray, List.set_cons_zero, List.set_cons_succ]
          obtain ⟨w6, hw6⟩ : ∃ X, World.drew w5 = X := ⟨_, rfl⟩
          have K6 : Hid (Below w5.heap.size w5 w6) := by show Below _ _ _; rw [← hw6]; exact (Below.refl _ _).drew
          have NR6 : Hid (w6.heap[w.heap.size + 1 + 1]? = some (.cells #[.slice none 0 0, .slice none 0 0] 26 (0, 0))) := by show _ = _; rw [← hw6]; exact NR5.out
          have NQ6 : Hid (w6.heap[Q]? = some (.cells #[.slice ga x.1.length ca, .slice gb x.2.length cb] 26 (0, 0))) := by show _ = _; rw [← hw6]; exact NQ5.out
          have hz6 : w5.heap.size ≤ w6.heap.size := K6.out.size
          rw [hw6]
          clear hw6 qc0 qc1
          refine wpAnyH_ready (rs := [3]) (by kernel_rfl) (by simp) ?_
          refine AllReadyH.cons rfl (fun K hK => ?_) AllReadyH.nil
          refine step_store_row rfl 26 (.tmp 4) (.tmp 21) rfl (w.heap.size + 1 + 1) #[.slice ga x.1.length ca, .slice gb x.2.length cb] rfl rfl 26 _ NR6.out HS2.out rfl (by simp [Value.oneCell']) rfl ?_
          obtain ⟨V6, hV6⟩ : ∃ X, w6.setRow (w.heap.size + 1 + 1) #[.slice ga x.1.length ca, .slice gb x.2.length cb] = X := ⟨_, rfl⟩
          have r6 : V6.heap[w.heap.size + 1 + 1]? = some (.cells #[.slice ga x.1.length ca, .slice gb x.2.length cb] 26 (0, 0)) := by rw [← hV6]; exact setRow_heap _ _ _ _ _ _ NR6.out
          have q6 : V6.heap[Q]? = some (.cells #[.slice ga x.1.length ca, .slice gb x.2.length cb] 26 (0, 0)) := by rw [← hV6, setRow_other _ _ _ _ (by omega)]; exact NQ6.out
          have HB6 : Hid (Below w.heap.size w V6) := by show Below _ _ _; rw [← hV6]; exact below_setRow (HB5.out.trans (K6.out.mono HB5.out.size)) (by omega) _
          have O6 : Hid (RingOwn w.heap.size V6.heap.size V6 (.agg #[.slice ga x.1.length ca, .slice gb x.2.length cb]) x) := by
            show RingOwn _ _ _ _ _
            have hs : V6.heap.size = w6.heap.size := by rw [← hV6]; simp
            obtain ⟨va, vn, hvv, k1, k2⟩ := (O5.out.below K6.out).setRow482 (q := w.heap.size + 1 + 1) (by omega) #[.slice ga x.1.length ca, .slice gb x.2.length cb]
            rw [hV6] at k1 k2
            exact ⟨va, vn, hvv, k1.weak (by omega) (by omega), k2.weak (by omega) (by omega)⟩
          have r0 : V6.cell? ⟨w.heap.size + 1 + 1, 0, none⟩ = some (.slice ga x.1.length ca) := by rw [cell_of_row _ _ 0 _ _ _ r6]; rfl
          have r1 : V6.cell? ⟨w.heap.size + 1 + 1, 1, none⟩ = some (.slice gb x.2.length cb) := by rw [cell_of_row _ _ 1 _ _ _ r6]; rfl
          have qc0 : V6.cell? ⟨Q, 0, none⟩ = some (.slice ga x.1.length ca) := by rw [cell_of_row _ _ 0 _ _ _ q6]; rfl
          have qc1 : V6.cell? ⟨Q, 1, none⟩ = some (.slice gb x.2.length cb) := by rw [cell_of_row _ _ 1 _ _ _ q6]; rfl
          rw [hV6]
          clear hV6 r6 q6
          refine hK.out _ _ ?_ (fun hHeld => ?_)
          · exact ⟨qc0, qc1⟩
          clear hK K
          try simp only [Act.put, List.setIfInBounds_toArray, List.set_cons_zero, List.set_cons_succ]
          refine wpAnyH_takeD (i := 4) (d := 5) (v := .bool false) rfl (by kernel_rfl) (by kernel_rfl) (by kernel_rfl) (fun _ _ _ h => h) (Or.inl ⟨by rfl, by intro w hSw; (try dsimp only at hSw); go_simp⟩) (by assumption) rfl ?_
          simp only [Act.put, List.setIfInBounds_toArray, List.set_cons_zero, List.set_cons_succ]
          refine wpAnyH_done (by kernel_rfl) ?_ _
          go_wp2
          refine bodyPost_ret (v := .tuple #[.agg #[.slice ga x.1.length ca, .slice gb x.2.length cb], .bool false]) (by simp [results, Tryd.results6, go_sem, r0, r1]) rfl ⟨_, by rw [hB], ?_, HB6.out⟩
          rw [HRT.out, hB]
          exact O6.out
        | true =>
          have he := hy hB
          subst he
          obtain ⟨u1, u2, hnq, ho⟩ := hbT hB
          obtain ⟨g1, n1, c1, g2, n2, c2, hv⟩ := ho.at.form2
          cases hv
          have NQ5 : Hid (w5.heap[Q]? = some (.cells #[.slice g1 n1 c1, .slice g2 n2 c2] 26 (0, 0))) := hnq
          have O5 : Hid (RingOwn (w.heap.size + 1 + 1 + 1) w5.heap.size w5 (.agg #[.slice g1 n1 c1, .slice g2 n2 c2]) (longT x key fr)) := by
            show RingOwn _ _ _ _ _
            obtain ⟨va, vn, hvv, k1, k2⟩ := ho
            exact ⟨va, vn, hvv, k1.weak (by omega) (by omega), k2.weak (by omega) (by omega)⟩
          clear hy hn hbF hbT hnq ho
          have qc0 : w5.cell? ⟨Q, 0, none⟩ = some (.slice g1 n1 c1) := by rw [cell_of_row _ _ 0 _ _ _ NQ5.out]; rfl
          have qc1 : w5.cell? ⟨Q, 1, none⟩ = some (.slice g2 n2 c2) := by rw [cell_of_row _ _ 1 _ _ _ NQ5.out]; rfl
          go_wp2_with fail
          refine wp_region_held_drew (S := (fun w' => w'.cell? ⟨Q, 0, none⟩ = some (.slice g1 n1 c1) ∧ w'.cell? ⟨Q, 1, none⟩ = some (.slice g2 n2 c2))) (by kernel_rfl) ?_ (fun hHeld => ?_)
          · exact ⟨qc0, qc1⟩
          refine wpAnyH_takeD (i := 0) (d := 21) (v := .agg #[.slice g1 n1 c1, .slice g2 n2 c2]) rfl (by kernel_rfl) (by kernel_rfl) (by kernel_rfl) (fun _ _ _ h => h) (Or.inl ⟨by rfl, by intro w hSw; (try dsimp only at hSw); go_simp⟩) (by assumption) rfl ?_
          simp only [Act.put, List.setIfInBounds_toArray, List.set_cons_zero, List.set_cons_succ]
          refine wpAnyH_takeD (i := 1) (d := 22) (v := .nilIface) rfl (by kernel_rfl) (by kernel_rfl) (by kernel_rfl) (fun _ _ _ h => h) (Or.inl ⟨by rfl, by intro w hSw; (try dsimp only at hSw); go_simp⟩) (by assumption) rfl ?_
          simp only [Act.put, List.setIfInBounds_toArray, List.set_cons_zero, List.set_cons_succ]
          refine wpAnyH_takeD (i := 2) (d := 23) (v := .bool true) rfl (by kernel_rfl) (by kernel_rfl) (by kernel_rfl) (fun _ _ _ h => h) (Or.inl ⟨by rfl, by intro w hSw; (try dsimp only at hSw); go_simp⟩) (by assumption) rfl ?_
          simp only [Act.put, List.setIfInBounds_toArray, List.set_cons_zero, List.set_cons_succ]
          obtain ⟨w6, hw6⟩ : ∃ X, World.drew w5 = X := ⟨_, rfl⟩
          have K6 : Hid (Below w5.heap.size w5 w6) := by show Below _ _ _; rw [← hw6]; exact (Below.refl _ _).drew
          have NR6 : Hid (w6.heap[w.heap.size + 1 + 1]? = some (.cells #[.slice none 0 0, .slice none 0 0] 26 (0, 0))) := by show _ = _; rw [← hw6]; exact NR5.out
          have NQ6 : Hid (w6.heap[Q]? = some (.cells #[.slice g1 n1 c1, .slice g2 n2 c2] 26 (0, 0))) := by show _ = _; rw [← hw6]; exact NQ5.out
          have hz6 : w5.heap.size ≤ w6.heap.size := K6.out.size
          rw [hw6]
          clear hw6 qc0 qc1
          refine wpAnyH_ready (rs := [3]) (by kernel_rfl) (by simp) ?_
          refine AllReadyH.cons rfl (fun K hK => ?_) AllReadyH.nil
          refine step_store_row rfl 26 (.tmp 4) (.tmp 21) rfl (w.heap.size + 1 + 1) #[.slice g1 n1 c1, .slice g2 n2 c2] rfl rfl 26 _ NR6.out HS2.out rfl (by simp [Value.oneCell']) rfl ?_
          obtain ⟨V6, hV6⟩ : ∃ X, w6.setRow (w.heap.size + 1 + 1) #[.slice g1 n1 c1, .slice g2 n2 c2] = X := ⟨_, rfl⟩
          have r6 : V6.heap[w.heap.size + 1 + 1]? = some (.cells #[.slice g1 n1 c1, .slice g2 n2 c2] 26 (0, 0)) := by rw [← hV6]; exact setRow_heap _ _ _ _ _ _ NR6.out
          have q6 : V6.heap[Q]? = some (.cells #[.slice g1 n1 c1, .slice g2 n2 c2] 26 (0, 0)) := by rw [← hV6, setRow_other _ _ _ _ (by omega)]; exact NQ6.out
          have HB6 : Hid (Below w.heap.size w V6) := by show Below _ _ _; rw [← hV6]; exact below_setRow (HB5.out.trans (K6.out.mono HB5.out.size)) (by omega) _
          have O6 : Hid (RingOwn w.heap.size V6.heap.size V6 (.agg #[.slice g1 n1 c1, .slice g2 n2 c2]) (longT x key fr)) := by
            show RingOwn _ _ _ _ _
            have hs : V6.heap.size = w6.heap.size := by rw [← hV6]; simp
            obtain ⟨va, vn, hvv, k1, k2⟩ := (O5.out.below K6.out).setRow482 (q := w.heap.size + 1 + 1) (by omega) #[.slice g1 n1 c1, .slice g2 n2 c2]
            rw [hV6] at k1 k2
            exact ⟨va, vn, hvv, k1.weak (by omega) (by omega), k2.weak (by omega) (by omega)⟩
          have r0 : V6.cell? ⟨w.heap.size + 1 + 1, 0, none⟩ = some (.slice g1 n1 c1) := by rw [cell_of_row _ _ 0 _ _ _ r6]; rfl
          have r1 : V6.cell? ⟨w.heap.size + 1 + 1, 1, none⟩ = some (.slice g2 n2 c2) := by rw [cell_of_row _ _ 1 _ _ _ r6]; rfl
          have qc0 : V6.cell? ⟨Q, 0, none⟩ = some (.slice g1 n1 c1) := by rw [cell_of_row _ _ 0 _ _ _ q6]; rfl
          have qc1 : V6.cell? ⟨Q, 1, none⟩ = some (.slice g2 n2 c2) := by rw [cell_of_row _ _ 1 _ _ _ q6]; rfl
          rw [hV6]
          clear hV6 r6 q6
          refine hK.out _ _ ?_ (fun hHeld => ?_)
          · exact ⟨qc0, qc1⟩
          clear hK K
          try simp only [Act.put, List.setIfInBounds_toArray, List.set_cons_zero, List.set_cons_succ]
          refine wpAnyH_takeD (i := 4) (d := 5) (v := .bool true) rfl (by kernel_rfl) (by kernel_rfl) (by kernel_rfl) (fun _ _ _ h => h) (Or.inl ⟨by rfl, by intro w hSw; (try dsimp only at hSw); go_simp⟩) (by assumption) rfl ?_
          simp only [Act.put, List.setIfInBounds_toArray, List.set_cons_zero, List.set_cons_succ]
          refine wpAnyH_done (by kernel_rfl) ?_ _
          go_wp2
          refine bodyPost_ret (v := .tuple #[.agg #[.slice g1 n1 c1, .slice g2 n2 c2], .bool true]) (by simp [results, Tryd.results6, go_sem, r0, r1]) rfl ⟨_, by rw [hB], ?_, HB6.out⟩
          rw [HRT.out, hB]
          exact O6.out
    · skip
      go_simp
      have NA : Hid ((w2.alloc (.cells #[.slice none 0 0, .slice none 0 0] 26)).heap[w2.heap.size]? = some (.cells #[.slice none 0 0, .slice none 0 0] 26 (0, 0))) := heap_alloc_last _ _
      obtain ⟨w3, hw3⟩ : ∃ X, w2.alloc (.cells #[.slice none 0 0, .slice none 0 0] 26) = X := ⟨_, rfl⟩
      have hsw3 : w2.heap.size < w3.heap.size := by rw [← hw3]; simp
      have Kw3 : Hid (Below w2.heap.size w2 w3) := by show Below _ _ _; rw [← hw3]; exact (Below.refl _ _).alloc (Nat.le_refl _) _
      have Xw3 : Hid (Below W.heap.size W w3) := Xw2.out.trans (Kw3.out.mono Xw2.out.size)
      have Nw3 : Hid (w3.heap[w2.heap.size]? = some (.cells #[.slice none 0 0, .slice none 0 0] 26 (0, 0))) := by show _ = _; rw [← hw3]; exact NA.out
      rw [hw3]
      clear hw3 NA
      obtain ⟨⟨t0, t1⟩, -, -, -⟩ := HCELL.out w3 Xw3.out
      refine hK.out _ _ ?_ (fun hHeld => ?_)
      · exact ⟨t0, t1⟩
      clear hK K t0 t1
      try simp only [Act.put, List.setIfInBounds_toArray, List.set_cons_zero, List.set_cons_succ]
      refine wpAnyH_ready (rs := [2]) (by kernel_rfl) (by simp) ?_
      refine AllReadyH.cons rfl (fun K hK => ?_) AllReadyH.nil
      go_simp
      refine (copyOfT_any _ _ x.1 (HA.out.below (HB0.out.trans (Xw3.out.mono HB0.out.size))) (by omega)).mono ?_
      rintro e w4 ⟨u1, rfl, ho, hb⟩
      have hsw4 : w3.heap.size ≤ w4.heap.size := hb.size
      have Kw4 : Hid (Below w3.heap.size w3 w4) := hb
      have Xw4 : Hid (Below W.heap.size W w4) := Xw3.out.trans (hb.mono Xw3.out.size)
      have Ru1w4 : Hid (TextsRow w3.heap.size w4.heap.size w4 u1 x.1) := textsRow_of_owns ho rfl (good_fit HG.out)
      clear ho hb
      have Nw4 : Hid (w4.heap[w2.heap.size]? = some (.cells #[.slice none 0 0, .slice none 0 0] 26 (0, 0))) := (Kw4.out.block _ (lt_of_block405 Nw3.out)).trans Nw3.out
      obtain ⟨⟨t0, t1⟩, -, -, -⟩ := HCELL.out w4 Xw4.out
      refine hK.out _ _ ?_ (fun hHeld => ?_)
      · exact ⟨t0, t1⟩
      clear hK K t0 t1
      try simp only [Act.put, List.setIfInBounds_toArray, List.set_cons_zero, List.set_cons_succ]
      refine wpAnyH_ready (rs := [5]) (by kernel_rfl) (by simp) ?_
      refine AllReadyH.cons rfl (fun K hK => ?_) AllReadyH.nil
      go_simp
      refine (copyOfI_any _ _ x.2 (HN.out.below (HB0.out.trans (Xw4.out.mono HB0.out.size))) (by omega)).mono ?_
      rintro e w5 ⟨u2, rfl, ho, hb⟩
      have hsw5 : w4.heap.size ≤ w5.heap.size := hb.size
      have Kw5 : Hid (Below w4.heap.size w4 w5) := hb
      have Xw5 : Hid (Below W.heap.size W w5) := Xw4.out.trans (hb.mono Xw4.out.size)
      have Ru2w5 : Hid (IntsRow w4.heap.size w5.heap.size w5 u2 x.2) := intsRow_of_owns ho rfl 
      clear ho hb
      have Nw5 : Hid (w5.heap[w2.heap.size]? = some (.cells #[.slice none 0 0, .slice none 0 0] 26 (0, 0))) := (Kw5.out.block _ (lt_of_block405 Nw4.out)).trans Nw4.out
      have Ru1w5 : Hid (TextsRow w3.heap.size w4.heap.size w5 u1 x.1) := Ru1w4.out.below Kw5.out
      obtain ⟨⟨t0, t1⟩, -, -, -⟩ := HCELL.out w5 Xw5.out
      refine hK.out _ _ ?_ (fun hHeld => ?_)
      · exact ⟨t0, t1⟩
      clear hK K t0 t1
      try simp only [Act.put, List.setIfInBounds_toArray, List.set_cons_zero, List.set_cons_succ]
      obtain ⟨ga, ca, rfl, -, -⟩ := Ru1w5.out.1.form
      obtain ⟨gb, cb, rfl, -, -⟩ := RowOwn.form Ru2w5.out
      refine wpAnyH_takeD (i := 6) (d := 18) (v := .agg #[.slice ga x.1.length ca, .slice gb x.2.length cb]) rfl (by kernel_rfl) (by kernel_rfl) (by kernel_rfl) (fun _ _ _ h => h) (Or.inl ⟨by rfl, by intro w hSw; (try dsimp only at hSw); go_simp⟩) (by assumption) rfl ?_
      simp only [Act.put, List.setIfInBounds_toArray, List.set_cons_zero, List.set_cons_succ]
      refine wpAnyH_ready (rs := [8]) (by kernel_rfl) (by simp) ?_
      refine AllReadyH.cons rfl (fun K hK => ?_) AllReadyH.nil
      refine step_store_row rfl 26 (.tmp 6) (.tmp 18) rfl (w2.heap.size) #[.slice ga x.1.length ca, .slice gb x.2.length cb] rfl rfl 26 _ Nw5.out HS2.out rfl (by simp [Value.oneCell']) rfl ?_
      have hqW : W.heap.size ≤ w2.heap.size := by have := Xw2.out.size; omega
      obtain ⟨Q, hQ⟩ : ∃ q, w2.heap.size = q := ⟨_, rfl⟩
      have hQS : Q < w5.heap.size := by rw [← hQ]; exact lt_of_block405 Nw5.out
      obtain ⟨V, hV⟩ : ∃ X, w5.setRow (w2.heap.size) #[.slice ga x.1.length ca, .slice gb x.2.length cb] = X := ⟨_, rfl⟩
      have XV : Hid (Below W.heap.size W V) := by show Below _ _ _; rw [← hV]; exact below_setRow Xw5.out hqW _
      have NV : Hid (V.heap[Q]? = some (.cells #[.slice ga x.1.length ca, .slice gb x.2.length cb] 26 (0, 0))) := by show _ = _; rw [← hV, ← hQ]; exact setRow_heap _ _ _ _ _ _ Nw5.out
      have hVs : V.heap.size = w5.heap.size := by rw [← hV]; simp
      have OV : Hid (RingOwn W.heap.size V.heap.size V (.agg #[.slice ga x.1.length ca, .slice gb x.2.length cb]) x) := by
        show RingOwn _ _ _ _ _
        have z1 := Xw2.out.size
        rw [← hV]
        exact ring_of_rows (ks := x.1) (ns := x.2) (TextsRow.weak (textsRow_set483 Ru1w5.out (by omega) _) (by omega) (by simp <;> omega)) (RowOwn.weak (intsRow_set483 Ru2w5.out (by omega) _) (by omega) (by simp <;> omega))
      rw [hV, hQ]
      rw [hQ] at hqW
      clear hV hQ hVs
      obtain ⟨⟨t0, t1⟩, -, -, -⟩ := HCELL.out V XV.out
      refine hK.out _ _ ?_ (fun hHeld => ?_)
      · exact ⟨t0, t1⟩
      clear hK K t0 t1
      try simp only [Act.put, List.setIfInBounds_toArray, List.set_cons_zero, List.set_cons_succ]
      refine wpAnyH_done (by kernel_rfl) ?_ _
      obtain ⟨-, ⟨b0, b1, b2⟩, -, -⟩ := HCELL.out V XV.out
      have HBV : Hid (Below w.heap.size w V) := HB0.out.trans (XV.out.mono HB0.out.size)
      go_wp2_with fail
      refine (HTK.out V Q _ _ NV.out OV.out.at HOK.out (HTP.out.below HBV.out) (HTR.out.below HBV.out) (HTF.out.below HBV.out)).mono ?_
      rintro e w5 ⟨⟨hy, hn⟩, hbF, hbT, hbq⟩
      have HQ5 : Hid (Below Q V w5) := hbq
      have hQn : w.heap.size + 1 + 1 < Q := by omega
      have NR5 : Hid (w5.heap[w.heap.size + 1 + 1]? = some (.cells #[.slice none 0 0, .slice none 0 0] 26 (0, 0))) := (HQ5.out.block _ hQn).trans (HN2.out V XV.out)
      have HB5 : Hid (Below w.heap.size w w5) := HBV.out.trans (HQ5.out.mono (by omega))
      have hzV : W.heap.size ≤ V.heap.size := XV.out.size
      have hz5 : V.heap.size ≤ w5.heap.size := HQ5.out.size
      clear b0 b1 b2 hbq
      cases hB : rtkB x (key, fr, sl) with
      | false =>
        obtain ⟨T, rfl⟩ := hn hB
        have K5 : Hid (Below V.heap.size V w5) := hbF hB
        have NQ5 : Hid (w5.heap[Q]? = some (.cells #[.slice ga x.1.length ca, .slice gb x.2.length cb] 26 (0, 0))) := (K5.out.block _ (lt_of_block405 NV.out)).trans NV.out
        have O5 : Hid (RingOwn (w.heap.size + 1 + 1 + 1) w5.heap.size w5 (.agg #[.slice ga x.1.length ca, .slice gb x.2.length cb]) x) := by
          show RingOwn _ _ _ _ _
          obtain ⟨va, vn, hvv, k1, k2⟩ := OV.out.below K5.out
          exact ⟨va, vn, hvv, k1.weak (by omega) (by omega), k2.weak (by omega) (by omega)⟩
        clear hy hn hbF hbT
        have qc0 : w5.cell? ⟨Q, 0, none⟩ = some (.slice ga x.1.length ca) := by rw [cell_of_row _ _ 0 _ _ _ NQ5.out]; rfl
        have qc1 : w5.cell? ⟨Q, 1, none⟩ = some (.slice gb x.2.length cb) := by rw [cell_of_row _ _ 1 _ _ _ NQ5.out]; rfl
        go_wp2_with fail
        refine wp_region_held_drew (S := (fun w' => w'.cell? ⟨Q, 0, none⟩ = some (.slice ga x.1.length ca) ∧ w'.cell? ⟨Q, 1, none⟩ = some (.slice gb x.2.length cb))) (by kernel_rfl) ?_ (fun hHeld => ?_)
        · exact ⟨qc0, qc1⟩
        refine wpAnyH_takeD (i := 0) (d := 21) (v := .agg #[.slice ga x.1.length ca, .slice gb x.2.length cb]) rfl (by kernel_rfl) (by kernel_rfl) (by kernel_rfl) (fun _ _ _ h => h) (Or.inl ⟨by rfl, by intro w hSw; (try dsimp only at hSw); go_simp⟩) (by assumption) rfl ?_
        simp only [Act.put, List.setIfInBounds_toArray, List.set_cons_zero, List.set_cons_succ]
        refine wpAnyH_takeD (i := 1) (d := 22) (v := .iface 93 T) rfl (by kernel_rfl) (by kernel_rfl) (by kernel_rfl) (fun _ _ _ h => h) (Or.inl ⟨by rfl, by intro w hSw; (try dsimp only at hSw); go_simp⟩) (by assumption) rfl ?_
        simp only [Act.put, List.setIfInBounds_toArray, List.set_cons_zero, List.set_cons_succ]
        refine wpAnyH_takeD (i := 2) (d := 23) (v := .bool false) rfl (by kernel_rfl) (by kernel_rfl) (by kernel_rfl) (fun _ _ _ h => h) (Or.inl ⟨by rfl, by intro w hSw; (try dsimp only at hSw); go_simp⟩) (by assumption) rfl ?_
        simp only [Act.put, List.setIfInBounds_toArray, List.set_cons_zero, List.set_cons_succ]
        obtain ⟨w6, hw6⟩ : ∃ X, World.drew w5 = X := ⟨_, rfl⟩
        have K6 : Hid (Below w5.heap.size w5 w6) := by show Below _ _ _; rw [← hw6]; exact (Below.refl _ _).drew
        have NR6 : Hid (w6.heap[w.heap.size + 1 + 1]? = some (.cells #[.slice none 0 0, .slice none 0 0] 26 (0, 0))) := by show _ = _; rw [← hw6]; exact NR5.out
        have NQ6 : Hid (w6.heap[Q]? = some (.cells #[.slice ga x.1.length ca, .slice gb x.2.length cb] 26 (0, 0))) := by show _ = _; rw [← hw6]; exact NQ5.out
        have hz6 : w5.heap.size ≤ w6.heap.size := K6.out.size
        rw [hw6]
        clear hw6 qc0 qc1
        refine wpAnyH_ready (rs := [3]) (by kernel_rfl) (by simp) ?_
        refine AllReadyH.cons rfl (fun K hK => ?_) AllReadyH.nil
        refine step_store_row rfl 26 (.tmp 4) (.tmp 21) rfl (w.heap.size + 1 + 1) #[.slice ga x.1.length ca, .slice gb x.2.length cb] rfl rfl 26 _ NR6.out HS2.out rfl (by simp [Value.oneCell']) rfl ?_
        obtain ⟨V6, hV6⟩ : ∃ X, w6.setRow (w.heap.size + 1 + 1) #[.slice ga x.1.length ca, .slice gb x.2.length cb] = X := ⟨_, rfl⟩
        have r6 : V6.heap[w.heap.size + 1 + 1]? = some (.cells #[.slice ga x.1.length ca, .slice gb x.2.length cb] 26 (0, 0)) := by rw [← hV6]; exact setRow_heap _ _ _ _ _ _ NR6.out
        have q6 : V6.heap[Q]? = some (.cells #[.slice ga x.1.length ca, .slice gb x.2.length cb] 26 (0, 0)) := by rw [← hV6, setRow_other _ _ _ _ (by omega)]; exact NQ6.out
        have HB6 : Hid (Below w.heap.size w V6) := by show Below _ _ _; rw [← hV6]; exact below_setRow (HB5.out.trans (K6.out.mono HB5.out.size)) (by omega) _
        have O6 : Hid (RingOwn w.heap.size V6.heap.size V6 (.agg #[.slice ga x.1.length ca, .slice gb x.2.length cb]) x) := by
          show RingOwn _ _ _ _ _
          have hs : V6.heap.size = w6.heap.size := by rw [← hV6]; simp
          obtain ⟨va, vn, hvv, k1, k2⟩ := (O5.out.below K6.out).setRow482 (q := w.heap.size + 1 + 1) (by omega) #[.slice ga x.1.length ca, .slice gb x.2.length cb]
          rw [hV6] at k1 k2
          exact ⟨va, vn, hvv, k1.weak (by omega) (by omega), k2.weak (by omega) (by omega)⟩
        have r0 : V6.cell? ⟨w.heap.size + 1 + 1, 0, none⟩ = some (.slice ga x.1.length ca) := by rw [cell_of_row _ _ 0 _ _ _ r6]; rfl
        have r1 : V6.cell? ⟨w.heap.size + 1 + 1, 1, none⟩ = some (.slice gb x.2.length cb) := by rw [cell_of_row _ _ 1 _ _ _ r6]; rfl
        have qc0 : V6.cell? ⟨Q, 0, none⟩ = some (.slice ga x.1.length ca) := by rw [cell_of_row _ _ 0 _ _ _ q6]; rfl
        have qc1 : V6.cell? ⟨Q, 1, none⟩ = some (.slice gb x.2.length cb) := by rw [cell_of_row _ _ 1 _ _ _ q6]; rfl
        rw [hV6]
        clear hV6 r6 q6
        refine hK.out _ _ ?_ (fun hHeld => ?_)
        · exact ⟨qc0, qc1⟩
        clear hK K
        try simp only [Act.put, List.setIfInBounds_toArray, List.set_cons_zero, List.set_cons_succ]
        refine wpAnyH_takeD (i := 4) (d := 5) (v := .bool false) rfl (by kernel_rfl) (by kernel_rfl) (by kernel_rfl) (fun _ _ _ h => h) (Or.inl ⟨by rfl, by intro w hSw; (try dsimp only at hSw); go_simp⟩) (by assumption) rfl ?_
        simp only [Act.put, List.setIfInBounds_toArray, List.set_cons_zero, List.set_cons_succ]
        refine wpAnyH_done (by kernel_rfl) ?_ _
        go_wp2
        refine bodyPost_ret (v := .tuple #[.agg #[.slice ga x.1.length ca, .slice gb x.2.length cb], .bool false]) (by simp [results, Tryd.results6, go_sem, r0, r1]) rfl ⟨_, by rw [hB], ?_, HB6.out⟩
        rw [HRT.out, hB]
        exact O6.out
      | true =>
        have he := hy hB
        subst he
        obtain ⟨u1, u2, hnq, ho⟩ := hbT hB
        obtain ⟨g1, n1, c1, g2, n2, c2, hv⟩ := ho.at.form2
        cases hv
        have NQ5 : Hid (w5.heap[Q]? = some (.cells #[.slice g1 n1 c1, .slice g2 n2 c2] 26 (0, 0))) := hnq
        have O5 : Hid (RingOwn (w.heap.size + 1 + 1 + 1) w5.heap.size w5 (.agg #[.slice g1 n1 c1, .slice g2 n2 c2]) (longT x key fr)) := by
          show RingOwn _ _ _ _ _
          obtain ⟨va, vn, hvv, k1, k2⟩ := ho
          exact ⟨va, vn, hvv, k1.weak (by omega) (by omega), k2.weak (by omega) (by omega)⟩
        clear hy hn hbF hbT hnq ho
        have qc0 : w5.cell? ⟨Q, 0, none⟩ = some (.slice g1 n1 c1) := by rw [cell_of_row _ _ 0 _ _ _ NQ5.out]; rfl
        have qc1 : w5.cell? ⟨Q, 1, none⟩ = some (.slice g2 n2 c2) := by rw [cell_of_row _ _ 1 _ _ _ NQ5.out]; rfl
        go_wp2_with fail
        refine wp_region_held_drew (S := (fun w' => w'.cell? ⟨Q, 0, none⟩ = some (.slice g1 n1 c1) ∧ w'.cell? ⟨Q, 1, none⟩ = some (.slice g2 n2 c2))) (by kernel_rfl) ?_ (fun hHeld => ?_)
        · exact ⟨qc0, qc1⟩
        refine wpAnyH_takeD (i := 0) (d := 21) (v := .agg #[.slice g1 n1 c1, .slice g2 n2 c2]) rfl (by kernel_rfl) (by kernel_rfl) (by kernel_rfl) (fun _ _ _ h => h) (Or.inl ⟨by rfl, by intro w hSw; (try dsimp only at hSw); go_simp⟩) (by assumption) rfl ?_
        simp only [Act.put, List.setIfInBounds_toArray, List.set_cons_zero, List.set_cons_succ]
        refine wpAnyH_takeD (i := 1) (d := 22) (v := .nilIface) rfl (by kernel_rfl) (by kernel_rfl) (by kernel_rfl) (fun _ _ _ h => h) (Or.inl ⟨by rfl, by intro w hSw; (try dsimp only at hSw); go_simp⟩) (by assumption) rfl ?_
        simp only [Act.put, List.setIfInBounds_toArray, List.set_cons_zero, List.set_cons_succ]
        refine wpAnyH_takeD (i := 2) (d := 23) (v := .bool true) rfl (by kernel_rfl) (by kernel_rfl) (by kernel_rfl) (fun _ _ _ h => h) (Or.inl ⟨by rfl, by intro w hSw; (try dsimp only at hSw); go_simp⟩) (by assumption) rfl ?_
        simp only [Act.put, List.setIfInBounds_toArray, List.set_cons_zero, List.set_cons_succ]
        obtain ⟨w6, hw6⟩ : ∃ X, World.drew w5 = X := ⟨_, rfl⟩
        have K6 : Hid (Below w5.heap.size w5 w6) := by show Below _ _ _; rw [← hw6]; exact (Below.refl _ _).drew
        have NR6 : Hid (w6.heap[w.heap.size + 1 + 1]? = some (.cells #[.slice none 0 0, .slice none 0 0] 26 (0, 0))) := by show _ = _; rw [← hw6]; exact NR5.out
        have NQ6 : Hid (w6.heap[Q]? = some (.cells #[.slice g1 n1 c1, .slice g2 n2 c2] 26 (0, 0))) := by show _ = _; rw [← hw6]; exact NQ5.out
        have hz6 : w5.heap.size ≤ w6.heap.size := K6.out.size
        rw [hw6]
        clear hw6 qc0 qc1
        refine wpAnyH_ready (rs := [3]) (by kernel_rfl) (by simp) ?_
        refine AllReadyH.cons rfl (fun K hK => ?_) AllReadyH.nil
        refine step_store_row rfl 26 (.tmp 4) (.tmp 21) rfl (w.heap.size + 1 + 1) #[.slice g1 n1 c1, .slice g2 n2 c2] rfl rfl 26 _ NR6.out HS2.out rfl (by simp [Value.oneCell']) rfl ?_
        obtain ⟨V6, hV6⟩ : ∃ X, w6.setRow (w.heap.size + 1 + 1) #[.slice g1 n1 c1, .slice g2 n2 c2] = X := ⟨_, rfl⟩
        have r6 : V6.heap[w.heap.size + 1 + 1]? = some (.cells #[.slice g1 n1 c1, .slice g2 n2 c2] 26 (0, 0)) := by rw [← hV6]; exact setRow_heap _ _ _ _ _ _ NR6.out
        have q6 : V6.heap[Q]? = some (.cells #[.slice g1 n1 c1, .slice g2 n2 c2] 26 (0, 0)) := by rw [← hV6, setRow_other _ _ _ _ (by omega)]; exact NQ6.out
        have HB6 : Hid (Below w.heap.size w V6) := by show Below _ _ _; rw [← hV6]; exact below_setRow (HB5.out.trans (K6.out.mono HB5.out.size)) (by omega) _
        have O6 : Hid (RingOwn w.heap.size V6.heap.size V6 (.agg #[.slice g1 n1 c1, .slice g2 n2 c2]) (longT x key fr)) := by
          show RingOwn _ _ _ _ _
          have hs : V6.heap.size = w6.heap.size := by rw [← hV6]; simp
          obtain ⟨va, vn, hvv, k1, k2⟩ := (O5.out.below K6.out).setRow482 (q := w.heap.size + 1 + 1) (by omega) #[.slice g1 n1 c1, .slice g2 n2 c2]
          rw [hV6] at k1 k2
          exact ⟨va, vn, hvv, k1.weak (by omega) (by omega), k2.weak (by omega) (by omega)⟩
        have r0 : V6.cell? ⟨w.heap.size + 1 + 1, 0, none⟩ = some (.slice g1 n1 c1) := by rw [cell_of_row _ _ 0 _ _ _ r6]; rfl
        have r1 : V6.cell? ⟨w.heap.size + 1 + 1, 1, none⟩ = some (.slice g2 n2 c2) := by rw [cell_of_row _ _ 1 _ _ _ r6]; rfl
        have qc0 : V6.cell? ⟨Q, 0, none⟩ = some (.slice g1 n1 c1) := by rw [cell_of_row _ _ 0 _ _ _ q6]; rfl
        have qc1 : V6.cell? ⟨Q, 1, none⟩ = some (.slice g2 n2 c2) := by rw [cell_of_row _ _ 1 _ _ _ q6]; rfl
        rw [hV6]
        clear hV6 r6 q6
        refine hK.out _ _ ?_ (fun hHeld => ?_)
        · exact ⟨qc0, qc1⟩
        clear hK K
        try simp only [Act.put, List.setIfInBounds_toArray, List.set_cons_zero, List.set_cons_succ]
        refine wpAnyH_takeD (i := 4) (d := 5) (v := .bool true) rfl (by kernel_rfl) (by kernel_rfl) (by kernel_rfl) (fun _ _ _ h => h) (Or.inl ⟨by rfl, by intro w hSw; (try dsimp only at hSw); go_simp⟩) (by assumption) rfl ?_
        simp only [Act.put, List.setIfInBounds_toArray, List.set_cons_zero, List.set_cons_succ]
        refine wpAnyH_done (by kernel_rfl) ?_ _
        go_wp2
        refine bodyPost_ret (v := .tuple #[.agg #[.slice g1 n1 c1, .slice g2 n2 c2], .bool true]) (by simp [results, Tryd.results6, go_sem, r0, r1]) rfl ⟨_, by rw [hB], ?_, HB6.out⟩
        rw [HRT.out, hB]
        exact O6.out
end Go.Proofs.YtdjpeickokoclaaDoor
