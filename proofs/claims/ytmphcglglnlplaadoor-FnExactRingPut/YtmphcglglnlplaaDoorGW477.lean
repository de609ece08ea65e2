/-
  A turn made: impl.TurnOf.
-/
import Derived.Test.YtmphcglglnlplaaDoorGW473
import Derived.Test.YtmphcglglnlplaaDoorGW407
import Derived.Test.YtmphcglglnlplaaDoorW80
namespace Go.Proofs.YtmphcglglnlplaaDoor
open Go.RowKit
set_option linter.unusedVariables false
abbrev TurnM := ByteArray × Int × ByteArray
def turnV (t : TurnM) : Value := .agg #[.string t.1, .int .i64 t.2.1, .string t.2.2]
def longT (x : RingM) (key : ByteArray) (fr : Int) : RingM := (x.1 ++ [key], x.2 ++ [fr])
def lastK (x : RingM) : ByteArray := x.1.getD (x.1.length - 1) ⟨#[]⟩
noncomputable def tofB (x : RingM) (key : ByteArray) (fr : Int) : Bool := ringOk x && ringOk (longT x key fr)
noncomputable def tofT (x : RingM) (key : ByteArray) (fr : Int) : TurnM := if tofB x key fr then (key, fr, sealT (lastK x) (turnB key fr)) else (⟨#[]⟩, 0, ⟨#[]⟩)
theorem good_pos {x : RingM} (h : RingGood x) : ∀ (i : Nat) (a : Int), x.2[i]? = some a → 1 ≤ a
  | 0, a, ha => by
    have h1 := h.2.2.2.1
    rw [ha] at h1
    have := Option.some.inj h1
    omega
  | i + 1, a, ha => by
    have hi : i < x.2.length := by have := (List.getElem?_eq_some_iff.1 ha).1; omega
    have h1 := good_pos h i (x.2[i]) (List.getElem?_eq_getElem hi)
    have h2 := h.2.2.2.2.2.1 i (x.2[i]) a (List.getElem?_eq_getElem hi) ha
    omega
theorem long_parts {x : RingM} {key : ByteArray} {fr : Int} (h : RingGood (longT x key fr)) : 1 ≤ fr ∧ fr ≤ 999999 ∧ keyT key = true := by
  have hl : (x.2 ++ [fr])[x.2.length]? = some fr := by rw [List.getElem?_append_right (Nat.le_refl _), Nat.sub_self]; rfl
  have hk : (x.1 ++ [key])[x.1.length]? = some key := by rw [List.getElem?_append_right (Nat.le_refl _), Nat.sub_self]; rfl
  exact ⟨good_pos h x.2.length fr hl, h.2.2.2.2.2.2 x.2.length fr hl, (h.2.2.2.2.1 x.1.length key hk).1⟩
theorem last_at {x : RingM} (h : RingGood x) : x.1[x.1.length - 1]? = some (lastK x) := by
  have h1 : x.1.length - 1 < x.1.length := by have := h.1; omega
  unfold lastK
  rw [List.getD_eq_getElem?_getD, List.getElem?_eq_getElem h1]
  rfl
theorem tof_no1 {x : RingM} (key : ByteArray) (fr : Int) (h : ringOk x = false) : tofB x key fr = false ∧ tofT x key fr = (⟨#[]⟩, 0, ⟨#[]⟩) := by
  have e : tofB x key fr = false := by unfold tofB; rw [h]; rfl
  refine ⟨e, ?_⟩
  unfold tofT
  rw [e]
  rfl
theorem tof_no2 {x : RingM} {key : ByteArray} {fr : Int} (h : ringOk (longT x key fr) = false) : tofB x key fr = false ∧ tofT x key fr = (⟨#[]⟩, 0, ⟨#[]⟩) := by
  have e : tofB x key fr = false := by unfold tofB; rw [h, Bool.and_false]
  refine ⟨e, ?_⟩
  unfold tofT
  rw [e]
  rfl
theorem tof_yes {x : RingM} {key : ByteArray} {fr : Int} (h : ringOk x = true) (h2 : ringOk (longT x key fr) = true) : tofB x key fr = true ∧ tofT x key fr = (key, fr, sealT (lastK x) (turnB key fr)) := by
  have e : tofB x key fr = true := by unfold tofB; rw [h, h2]; rfl
  refine ⟨e, ?_⟩
  unfold tofT
  rw [e]
  rfl
theorem ret_turn {a b : TurnM} {p q : Bool} (h : a = b) (h2 : p = q) : Ending.returned (.tuple #[turnV a, .bool p]) = .returned (.tuple #[turnV b, .bool q]) := by rw [h, h2]
set_option maxRecDepth 100000 in
set_option maxHeartbeats 4000000 in
theorem implTurnOf_any (w : World) (v : Value) (x : RingM) (key : ByteArray) (fr : Int) (h : RingAt w v x) (hk : key.size ≤ maxLen) (hP : powTab w) (hR : roundTab w) (hF : firstTab w) :
    Calls Tryd.prog 9 #[v, .string key, .int .i64 fr] w fun e w' => e = .returned (.tuple #[turnV (tofT x key fr), .bool (tofB x key fr)]) ∧ Below w.heap.size w w' := by
  obtain ⟨a, l, cap, a', l', cap', rfl⟩ := h.form2
  have HR : Hid (RingAt w (.agg #[.slice a l cap, .slice a' l' cap']) x) := h
  have HTP : Hid (powTab w) := hP
  have HTR : Hid (roundTab w) := hR
  have HTF : Hid (firstTab w) := hF
  have HK : Hid (key.size ≤ maxLen) := hk
  obtain ⟨W, hW⟩ : ∃ W, (w.alloc (.cells #[.slice a l cap, .slice a' l' cap'] 31)).alloc (.cells #[.string ⟨#[]⟩, .int .i64 0, .string ⟨#[]⟩] 28) = W := ⟨_, rfl⟩
  have N0 : W.heap[w.heap.size]? = some (.cells #[.slice a l cap, .slice a' l' cap'] 31 (0, 0)) := by rw [← hW]; exact heap_alloc2_old _ _ _
  have N1 : W.heap[w.heap.size + 1]? = some (.cells #[.string ⟨#[]⟩, .int .i64 0, .string ⟨#[]⟩] 28 (0, 0)) := by rw [← hW]; exact heap_alloc2_new _ _ _
  have HB0 : Hid (Below w.heap.size w W) := by show Below _ _ _; rw [← hW]; exact ((Below.refl _ _).alloc (Nat.le_refl _) _).alloc (by simp <;> omega) _
  have hz1 : w.heap.size + 1 < W.heap.size := (Array.getElem?_eq_some_iff.1 N1).1
  have HN0 : Hid (W.heap[w.heap.size]? = some (.cells #[.slice a l cap, .slice a' l' cap'] 31 (0, 0))) := N0
  have HN1 : Hid (W.heap[w.heap.size + 1]? = some (.cells #[.string ⟨#[]⟩, .int .i64 0, .string ⟨#[]⟩] 28 (0, 0))) := N1
  have HW : Hid ((w.alloc (.cells #[.slice a l cap, .slice a' l' cap'] 31)).alloc (.cells #[.string ⟨#[]⟩, .int .i64 0, .string ⟨#[]⟩] 28) = W) := hW
  have HC : Hid (∀ (w : World) (v : Value) (x : RingM), RingAt w v x → Calls Tryd.prog 29 #[v] w fun e w' => e = .returned (.bool (ringOk x)) ∧ Below w.heap.size w w') := fun w v x h => implRingOk_any w v x h
  have HCELL : Hid (∀ (V : World), Below W.heap.size W V → (V.cell? ⟨w.heap.size, 0, none⟩ = some (.slice a l cap) ∧ V.cell? ⟨w.heap.size, 1, none⟩ = some (.slice a' l' cap')) ∧ (V.cell? ⟨w.heap.size + 1, 0, none⟩ = some (.string ⟨#[]⟩) ∧ V.cell? ⟨w.heap.size + 1, 1, none⟩ = some (.int .i64 0) ∧ V.cell? ⟨w.heap.size + 1, 2, none⟩ = some (.string ⟨#[]⟩)) ∧ ∀ i, V.frozen? ⟨w.heap.size + 1, i, none⟩ = false) := fun V hV => by
    have e0 : V.heap[w.heap.size]? = _ := (hV.block _ (by omega)).trans N0
    have e1 : V.heap[w.heap.size + 1]? = _ := (hV.block _ hz1).trans N1
    exact ⟨⟨by rw [cell_of_row _ _ 0 _ _ _ e0]; rfl, by rw [cell_of_row _ _ 1 _ _ _ e0]; rfl⟩, ⟨by rw [cell_of_row _ _ 0 _ _ _ e1]; rfl, by rw [cell_of_row _ _ 1 _ _ _ e1]; rfl, by rw [cell_of_row _ _ 2 _ _ _ e1]; rfl⟩, fun i => frozen_of_row _ _ i _ _ e1⟩
  obtain ⟨⟨s0, s1⟩, -, -⟩ := HCELL.out W (Below.refl _ _)
  clear h hP hR hF hk hW N0 N1
  cases hok : ringOk x with
  | false =>
    have HM := tof_no1 key fr hok
    have HMM : Hid (tofB x key fr = false ∧ tofT x key fr = (⟨#[]⟩, 0, ⟨#[]⟩)) := HM
    clear HM
    go_enter Tryd.func9, Tryd.ntmps9
    go_wp2_with fail
    try rw [HW.out]
    refine (HC.out _ _ x (HR.out.below HB0.out)).mono ?_
    rintro e w1 ⟨rfl, hb1⟩
    rw [hok]
    obtain ⟨-, ⟨d0, d1, d2⟩, fz⟩ := HCELL.out w1 hb1
    have f0 := fz 0
    have f1 := fz 1
    have f2 := fz 2
    have HB1 : Hid (Below w.heap.size w w1) := HB0.out.trans (hb1.mono (by omega))
    clear hb1 fz
    go_wp2
    refine bodyPost_ret (v := .tuple #[.agg #[.string ⟨#[]⟩, .int .i64 0, .string ⟨#[]⟩], .bool false]) (by simp [results, Tryd.results9, go_sem, d0, d1, d2, World.cell?_setCell_same', World.cell?_setCell_other]) rfl ⟨(ret_turn HMM.out.2 HMM.out.1).symm, ?_⟩
    exact ((HB1.out.setCell (Nat.le_succ _) _).setCell (Nat.le_succ _) _).setCell (Nat.le_succ _) _
  | true =>
    have HG : Hid (RingGood x) := ringOk_good hok
    have hl5 : x.1.length ≤ 5 := HG.out.2.1
    have hl6 : x.2.length ≤ 5 := by have := HG.out.2.2.1; omega
    cases hok2 : ringOk (longT x key fr) with
    | false =>
      have HMM : Hid (tofB x key fr = false ∧ tofT x key fr = (⟨#[]⟩, 0, ⟨#[]⟩)) := tof_no2 hok2
      go_enter Tryd.func9, Tryd.ntmps9
      go_wp2_with fail
      try rw [HW.out]
      refine (HC.out _ _ x (HR.out.below HB0.out)).mono ?_
      rintro e w1 ⟨rfl, hb1⟩
      rw [hok]
      obtain ⟨⟨t0, t1⟩, -, -⟩ := HCELL.out w1 hb1
      have HX1 : Hid (Below W.heap.size W w1) := hb1
      have HB1 : Hid (Below w.heap.size w w1) := HB0.out.trans (hb1.mono (by omega))
      clear hb1
      go_wp2_with fail
      refine (longerRing_any _ _ x key fr (HR.out.below HB1.out) (by omega) (by omega) HK.out).mono ?_
      rintro e w2 ⟨v2, rfl, ho2, hb2⟩
      have HO2 : Hid (RingAt w2 v2 (longT x key fr)) := ho2.at
      have HX2 : Hid (Below W.heap.size W w2) := HX1.out.trans (hb2.mono HX1.out.size)
      have HB2 : Hid (Below w.heap.size w w2) := HB1.out.trans (hb2.mono HB1.out.size)
      clear ho2 hb2
      go_wp2_with fail
      refine (HC.out _ _ _ HO2.out).mono ?_
      rintro e w3 ⟨rfl, hb3⟩
      rw [hok2]
      have HX3 : Below W.heap.size W w3 := HX2.out.trans (hb3.mono HX2.out.size)
      obtain ⟨-, ⟨d0, d1, d2⟩, fz⟩ := HCELL.out w3 HX3
      have f0 := fz 0
      have f1 := fz 1
      have f2 := fz 2
      have HB3 : Hid (Below w.heap.size w w3) := HB2.out.trans (hb3.mono HB2.out.size)
      clear hb3 fz HX3 t0 t1 s0 s1
      go_wp2
      refine bodyPost_ret (v := .tuple #[.agg #[.string ⟨#[]⟩, .int .i64 0, .string ⟨#[]⟩], .bool false]) (by simp [results, Tryd.results9, go_sem, d0, d1, d2, World.cell?_setCell_same', World.cell?_setCell_other]) rfl ⟨(ret_turn HMM.out.2 HMM.out.1).symm, ?_⟩
      exact ((HB3.out.setCell (Nat.le_succ _) _).setCell (Nat.le_succ _) _).setCell (Nat.le_succ _) _
    | true =>
      have HMM : Hid (tofB x key fr = true ∧ tofT x key fr = (key, fr, sealT (lastK x) (turnB key fr))) := tof_yes hok hok2
      obtain ⟨q1, q2, q3⟩ := long_parts (ringOk_good hok2)
      have hks : key.size ≤ 64 := keyT_size q3
      have hla := last_at HG.out
      go_enter Tryd.func9, Tryd.ntmps9
      go_wp2_with fail
      try rw [HW.out]
      refine (HC.out _ _ x (HR.out.below HB0.out)).mono ?_
      rintro e w1 ⟨rfl, hb1⟩
      rw [hok]
      obtain ⟨⟨t0, t1⟩, -, -⟩ := HCELL.out w1 hb1
      have HX1 : Hid (Below W.heap.size W w1) := hb1
      have HB1 : Hid (Below w.heap.size w w1) := HB0.out.trans (hb1.mono (by omega))
      have HLA : Hid (x.1[x.1.length - 1]? = some (lastK x)) := hla
      clear hb1 hla
      go_wp2_with fail
      refine (longerRing_any _ _ x key fr (HR.out.below HB1.out) (by omega) (by omega) HK.out).mono ?_
      rintro e w2 ⟨v2, rfl, ho2, hb2⟩
      have HO2 : Hid (RingAt w2 v2 (longT x key fr)) := ho2.at
      have HX2 : Hid (Below W.heap.size W w2) := HX1.out.trans (hb2.mono HX1.out.size)
      have HB2 : Hid (Below w.heap.size w w2) := HB1.out.trans (hb2.mono HB1.out.size)
      clear ho2 hb2
      go_wp2_with fail
      refine (HC.out _ _ _ HO2.out).mono ?_
      rintro e w3 ⟨rfl, hb3⟩
      rw [hok2]
      have HX3 : Hid (Below W.heap.size W w3) := HX2.out.trans (hb3.mono HX2.out.size)
      have HB3 : Hid (Below w.heap.size w w3) := HB2.out.trans (hb3.mono HB2.out.size)
      obtain ⟨va, vn, hvv, ha, hn⟩ := HR.out
      cases hvv
      obtain ⟨_, _, hva, hc, hm⟩ := ha.form
      cases hva
      have hl1 : x.1.length - 1 < x.1.length := by have := HG.out.1; omega
      obtain ⟨b, off, cap1, y, hv, hbl, hy, hyf, c0⟩ := (ha.below HB3.out).at (k := x.1.length - 1) hl1
      cases hv
      have hyk : lastK x = y := by rw [HLA.out] at hy; exact Option.some.inj hy
      obtain ⟨n, hnn⟩ : ∃ n, x.1.length = n := ⟨_, rfl⟩
      obtain ⟨m, hmm⟩ : ∃ m, n - 1 = m := ⟨_, rfl⟩
      rw [hnn, hmm] at c0
      rw [hnn] at hl1 hl5
      obtain ⟨⟨t2, t3⟩, -, -⟩ := HCELL.out w3 HX3.out
      rw [hnn] at t2
      have hw1 : IntKind.i64.wrap ((n : Int) - 1) = (m : Int) := by rw [show (n : Int) - 1 = (m : Int) by omega]; exact IntWalk.i64_in _ (by omega)
      have hmn : (m : Int) < (n : Int) := by omega
      have hm0 : (0 : Int) ≤ (m : Int) := by omega
      have HY : Hid (sealT (lastK x) (turnB key fr) = sealT y (turnB key fr)) := by show _ = _; rw [hyk]
      have HYF : Hid (y.size ≤ maxLen) := hyf
      have HTL : Hid ((turnB key fr).size ≤ 1900000) := by
        have := turn_len (key := key) (fr := fr) (by omega) (by omega)
        show (turnB key fr).size ≤ _
        unfold turnB
        rw [str_sz]
        omega
      clear hb3 t0 t1 ha hn hc hm hy hyk hyf hnn hmm hbl s0 s1
      go_wp2_with fail
      refine (implTurnText_any _ key fr (by omega) (by omega) (by omega) (HTP.out.below HB3.out)).mono ?_
      rintro e w4 ⟨rfl, hb4⟩
      have HX4 : Hid (Below W.heap.size W w4) := HX3.out.trans (hb4.mono HX3.out.size)
      have HB4 : Hid (Below w.heap.size w w4) := HB3.out.trans (hb4.mono HB3.out.size)
      clear hb4 c0 t2 t3
      go_wp2_with fail
      refine (implSealOf_any _ y (turnB key fr) HYF.out HTL.out (HTR.out.below HB4.out) (HTF.out.below HB4.out)).mono ?_
      rintro e w5 ⟨rfl, hb5⟩
      have HX5 : Below W.heap.size W w5 := HX4.out.trans (hb5.mono HX4.out.size)
      have HB5 : Hid (Below w.heap.size w w5) := HB4.out.trans (hb5.mono HB4.out.size)
      obtain ⟨-, ⟨d0, d1, d2⟩, fz⟩ := HCELL.out w5 HX5
      have f0 := fz 0
      have f1 := fz 1
      have f2 := fz 2
      clear hb5 fz HX5
      go_wp2
      refine bodyPost_ret (v := .tuple #[.agg #[.string key, .int .i64 fr, .string (sealT y (turnB key fr))], .bool true]) (by simp [results, Tryd.results9, go_sem, d0, d1, d2, World.cell?_setCell_same', World.cell?_setCell_other]) rfl ⟨?_, ?_⟩
      · rw [HMM.out.1, HMM.out.2, HY.out]
        rfl
      · exact ((HB5.out.setCell (Nat.le_succ _) _).setCell (Nat.le_succ _) _).setCell (Nat.le_succ _) _
end Go.Proofs.YtmphcglglnlplaaDoor
/-
  A ring written as turns: RingPut of both.
-/
namespace Go.Proofs.YtmphcglglnlplaaDoor
open Go.RowKit
set_option linter.unusedVariables false
def lineB (y : ByteArray) (f : Int) (z : ByteArray) : ByteArray := turnB y f ++ ⟨#[32]⟩ ++ sealT z (turnB y f) ++ ⟨#[10]⟩
def lineR (x : RingM) (k : Nat) : List UInt8 := (lineB (x.1.getD k ⟨#[]⟩) (x.2.getD k 0) (x.1.getD (k - 1) ⟨#[]⟩)).data.toList
/-- The lines so far. -/
def linesR (x : RingM) : Nat → List UInt8
  | 0 => []
  | 1 => []
  | k + 2 => linesR x (k + 1) ++ lineR x (k + 1)
theorem linesR_next (x : RingM) {k : Nat} (h : 1 ≤ k) : linesR x (k + 1) = linesR x k ++ lineR x k := by
  obtain ⟨j, rfl⟩ : ∃ j, k = j + 1 := ⟨k - 1, by omega⟩
  rfl
noncomputable def rgpT (x : RingM) : ByteArray := if ringOk x then ⟨(linesR x x.1.length).toArray⟩ else ⟨#[]⟩
theorem sealT_size (key text : ByteArray) : (sealT key text).size ≤ 64 := by
  unfold sealT
  split
  · rw [str_sz, hex_len, digB_len]
    omega
  · exact Nat.zero_le _
theorem lineB_size {y : ByteArray} {f : Int} {z : ByteArray} (hy : y.size ≤ 64) (h0 : -9223372036854775808 ≤ f) (h1 : f ≤ 9223372036854775807) : (lineB y f z).size ≤ 300 := by
  have h := turn_len (key := y) (fr := f) h0 h1
  have h2 := sealT_size z (turnB y f)
  have h3 : (turnB y f).size = (turnL y f).length := str_sz _
  unfold lineB
  rw [ByteArray.size_append, ByteArray.size_append, ByteArray.size_append]
  show (turnB y f).size + 1 + (sealT z (turnB y f)).size + 1 ≤ 300
  omega
theorem good_at {x : RingM} (h : RingGood x) {k : Nat} {y : ByteArray} {f : Int} (hy : x.1[k]? = some y) (hf : x.2[k]? = some f) : y.size ≤ 64 ∧ 1 ≤ f ∧ f ≤ 999999 := ⟨keyT_size (h.2.2.2.2.1 k y hy).1, good_pos h k f hf, h.2.2.2.2.2.2 k f hf⟩
theorem lineR_at {x : RingM} {k : Nat} {y z : ByteArray} {f : Int} (hy : x.1[k]? = some y) (hf : x.2[k]? = some f) (hz : x.1[k - 1]? = some z) : lineR x k = (lineB y f z).data.toList := by
  unfold lineR
  rw [List.getD_eq_getElem?_getD, hy, List.getD_eq_getElem?_getD, hf, List.getD_eq_getElem?_getD, hz]
  rfl
theorem linesR_len {x : RingM} (h : RingGood x) : ∀ k, k ≤ x.1.length → (linesR x k).length ≤ 300 * k
  | 0, _ => Nat.zero_le _
  | 1, _ => Nat.zero_le _
  | k + 2, hk => by
    have h1 := linesR_len h (k + 1) (by omega)
    have hl := h.2.2.1
    have hy : x.1[k + 1]? = some (x.1[k + 1]'(by omega)) := List.getElem?_eq_getElem (by omega)
    have hf : x.2[k + 1]? = some (x.2[k + 1]'(by omega)) := List.getElem?_eq_getElem (by omega)
    have hz : x.1[k + 1 - 1]? = some (x.1[k]'(by omega)) := List.getElem?_eq_getElem (by omega)
    obtain ⟨g1, g2, g3⟩ := good_at h hy hf
    have h2 := lineB_size (z := x.1[k]'(by omega)) g1 (f := x.2[k + 1]'(by omega)) (by omega) (by omega)
    have h3 : (lineR x (k + 1)).length = (lineB (x.1[k + 1]'(by omega)) (x.2[k + 1]'(by omega)) (x.1[k]'(by omega))).size := by rw [lineR_at hy hf hz]; rfl
    show (linesR x (k + 1) ++ lineR x (k + 1)).length ≤ _
    rw [List.length_append]
    omega
set_option maxRecDepth 100000 in
set_option maxHeartbeats 8000000 in
theorem implRingPut_any (w : World) (v : Value) (x : RingM) (h : RingAt w v x) (hP : powTab w) (hR : roundTab w) (hF : firstTab w) :
    Calls Tryd.prog 19 #[v] w fun e w' => e = .returned (.string (rgpT x)) ∧ Below w.heap.size w w' := by
  have HTP : Hid (powTab w) := hP
  have HTR : Hid (roundTab w) := hR
  have HTF : Hid (firstTab w) := hF
  clear hP hR hF
  obtain ⟨va, vn, rfl, ha, hn⟩ := h
  obtain ⟨ks, ns⟩ := x
  simp only at ha hn
  obtain ⟨a, cap, rfl, hc, hm⟩ := ha.form
  obtain ⟨a', cap', rfl, hc', hm'⟩ := hn.form
  have HR : Hid (RingAt w (.agg #[.slice a ks.length cap, .slice a' ns.length cap']) (ks, ns)) := ⟨_, _, rfl, ha, hn⟩
  have HA : Hid (TextsAt w (.slice a ks.length cap) ks) := ha
  have HN : Hid (IntsAt w (.slice a' ns.length cap') ns) := hn
  obtain ⟨W, hW⟩ : ∃ W, w.alloc (.cells #[.slice a ks.length cap, .slice a' ns.length cap'] 31) = W := ⟨_, rfl⟩
  have N0 : W.heap[w.heap.size]? = some (.cells #[.slice a ks.length cap, .slice a' ns.length cap'] 31 (0, 0)) := by rw [← hW]; exact heap_alloc_last w _
  have HB0 : Hid (Below w.heap.size w W) := by show Below _ _ _; rw [← hW]; exact (Below.refl _ _).alloc (Nat.le_refl _) _
  have HW : Hid (w.alloc (.cells #[.slice a ks.length cap, .slice a' ns.length cap'] 31) = W) := hW
  have hzW : w.heap.size < W.heap.size := (Array.getElem?_eq_some_iff.1 N0).1
  have HCELL : Hid (∀ V, Below W.heap.size W V → V.cell? ⟨w.heap.size, 0, none⟩ = some (.slice a ks.length cap) ∧ V.cell? ⟨w.heap.size, 1, none⟩ = some (.slice a' ns.length cap')) := fun V hV => by
    have e0 : V.heap[w.heap.size]? = _ := (hV.block _ hzW).trans N0
    exact ⟨by rw [cell_of_row _ _ 0 _ _ _ e0]; rfl, by rw [cell_of_row _ _ 1 _ _ _ e0]; rfl⟩
  have HC : Hid (∀ (w : World) (v : Value) (x : RingM), RingAt w v x → Calls Tryd.prog 29 #[v] w fun e w' => e = .returned (.bool (ringOk x)) ∧ Below w.heap.size w w') := fun w v x h => implRingOk_any w v x h
  obtain ⟨s0, s1⟩ := HCELL.out W (Below.refl _ _)
  clear ha hn hc hc' hm hm' hW N0
  cases hok : ringOk (ks, ns) with
  | false =>
    have HM : Hid (rgpT (ks, ns) = ⟨#[]⟩) := by show _ = _; unfold rgpT; rw [hok]; rfl
    go_enter Tryd.func19, Tryd.ntmps19
    go_wp2_with fail
    try rw [HW.out]
    refine (HC.out _ _ (ks, ns) (HR.out.below HB0.out)).mono ?_
    rintro e w1 ⟨rfl, hb1⟩
    rw [hok]
    have HB1 : Hid (Below w.heap.size w w1) := HB0.out.trans (hb1.mono HB0.out.size)
    clear hb1
    go_wp2
    go_ret
    exact ⟨ret_str448 (by rw [HM.out]), HB1.out⟩
  | true =>
    have HG : Hid (RingGood (ks, ns)) := ringOk_good hok
    have HM : Hid (rgpT (ks, ns) = ⟨(linesR (ks, ns) ks.length).toArray⟩) := by show _ = _; unfold rgpT; rw [hok]; rfl
    have hl1 : 1 ≤ ks.length := HG.out.1
    have hl5 : ks.length ≤ 5 := HG.out.2.1
    go_enter Tryd.func19, Tryd.ntmps19
    go_wp2_with fail
    try rw [HW.out]
    refine (HC.out _ _ (ks, ns) (HR.out.below HB0.out)).mono ?_
    rintro e w1 ⟨rfl, hb1⟩
    rw [hok]
    have X1 : Hid (Below W.heap.size W w1) := hb1
    obtain ⟨W1, hW1⟩ : ∃ W1, w1.alloc (.cells #[.pointer none, .slice none 0 0] 63) = W1 := ⟨_, rfl⟩
    have B1 : Hid (Below w1.heap.size w1 W1) := by show Below _ _ _; rw [← hW1]; exact (Below.refl _ _).alloc (Nat.le_refl _) _
    have L1 : Hid (Below W.heap.size W W1) := X1.out.trans (B1.out.mono X1.out.size)
    have I1 : Hid (Lib.IsBuilder 63 5 w1.heap.size w1.heap.size (Lib.byteCells (linesR (ks, ns) 1)) W1) := by show Lib.IsBuilder _ _ _ _ _ _; rw [← hW1]; exact .inl ⟨Nat.le_refl _, .slice none 0 0, Go.Deep.blk_alloc_new _ _, World.ownsRow_nil .., by simp [Value.ownBlock]⟩
    have HW1 : Hid (w1.alloc (.cells #[.pointer none, .slice none 0 0] 63) = W1) := hW1
    clear hb1 hW1 hok s0 s1
    go_wp2_with fail
    try rw [HW1.out]
    go_loopw [4] (fun i wr => ∃ (k : Nat), 1 ≤ k ∧ k ≤ ks.length ∧ i = .int .i64 k ∧ Lib.IsBuilder 63 5 w1.heap.size w1.heap.size (Lib.byteCells (linesR (ks, ns) k)) wr ∧ Below w1.heap.size w1 wr) (fun i _ => ks.length - (intOf i).toNat)
    case atStart => exact ⟨1, Nat.le_refl _, hl1, rfl, I1.out, B1.out⟩
    case round =>
      clear I1 B1 L1
      obtain ⟨k, hk1, hk, rfl, hbd, hbl0⟩ := hrel
      have HBD : Hid (Lib.IsBuilder 63 5 w1.heap.size w1.heap.size (Lib.byteCells (linesR (ks, ns) k)) wr) := hbd
      have LB : Hid (Below w1.heap.size w1 wr) := hbl0
      have L : Hid (Below W.heap.size W wr) := X1.out.trans (LB.out.mono X1.out.size)
      obtain ⟨t0, t1⟩ := HCELL.out wr L.out
      have hll : (linesR (ks, ns) k).length ≤ 300 * k := linesR_len HG.out k hk
      clear hbd hbl0
      by_cases hlt : k < ks.length
      · skip
        obtain ⟨b, off, cp, y, hv, hbl, hy, hyf, c0⟩ := (HA.out.below (HB0.out.trans (L.out.mono HB0.out.size))).at (k := k) hlt
        cases hv
        obtain ⟨b', off', cp', f, hv', hbl', hf, d0⟩ := (HN.out.below (HB0.out.trans (L.out.mono HB0.out.size))).at (k := k) (by have h9 : ns.length = ks.length := HG.out.2.2.1; omega)
        cases hv'
        obtain ⟨j, hj⟩ : ∃ j, k - 1 = j := ⟨_, rfl⟩
        obtain ⟨b2, off2, cp2, z, hv2, hbl2, hz, hzf, e0⟩ := (HA.out.below (HB0.out.trans (L.out.mono HB0.out.size))).at (k := j) (by omega)
        cases hv2
        obtain ⟨g1, g2, g3⟩ := good_at HG.out hy hf
        have HLN : Hid (linesR (ks, ns) (k + 1) = linesR (ks, ns) k ++ (lineB y f z).data.toList) := by show _ = _; rw [linesR_next _ (by omega), lineR_at hy hf (by show ks[k - 1]? = some z; rw [hj]; exact hz)]
        have hlz := lineB_size (z := z) g1 (f := f) (by omega) (by omega)
        obtain ⟨m, rfl⟩ := Int.eq_ofNat_of_zero_le (show 0 ≤ f by omega)
        obtain ⟨T, hT⟩ : ∃ T, turnB y (m : Int) = T := ⟨_, rfl⟩
        have hTs : T.size ≤ 200 := by
          have h := turn_len (key := y) (fr := (m : Int)) (by omega) (by omega)
          have h3 : (turnB y (m : Int)).size = (turnL y (m : Int)).length := str_sz _
          rw [← hT, h3]
          omega
        obtain ⟨SL, hSL⟩ : ∃ T2, sealT z T = T2 := ⟨_, rfl⟩
        have hSLs : SL.size ≤ 64 := by rw [← hSL]; exact sealT_size _ _
        have HZF : Hid (z.size ≤ maxLen) := hzf
        have HSL : Hid (sealT z T = SL) := hSL
        have HT : Hid (turnB y (m : Int) = T) := hT
        have hj1 : IntKind.i64.wrap ((k : Int) - 1) = (j : Int) := by rw [show (k : Int) - 1 = (j : Int) by omega]; exact IntWalk.i64_in _ (by omega)
        have hj0 : (0 : Int) ≤ (j : Int) := by omega
        have hjn : (j : Int) < (ks.length : Int) := by omega
        have hk0 : (0 : Int) ≤ (k : Int) := by omega
        have hkn : (k : Int) < (ks.length : Int) := by omega
        have hkn2 : (k : Int) < (ns.length : Int) := by have h9 : ns.length = ks.length := HG.out.2.2.1; omega
        obtain ⟨T1, h1⟩ : ∃ X, T ++ ⟨#[32]⟩ = X := ⟨_, rfl⟩
        have z1 : T1.size ≤ 201 := by rw [← h1, ByteArray.size_append]; show T.size + 1 ≤ 201; omega
        obtain ⟨T2, h2⟩ : ∃ X, T1 ++ SL = X := ⟨_, rfl⟩
        have z2 : T2.size ≤ 265 := by rw [← h2, ByteArray.size_append]; omega
        obtain ⟨T3, h3⟩ : ∃ X, T2 ++ ⟨#[10]⟩ = X := ⟨_, rfl⟩
        have z3 : T3.size ≤ 266 := by rw [← h3, ByteArray.size_append]; show T2.size + 1 ≤ 266; omega
        have HL3 : Hid (T3 = lineB y (m : Int) z) := by show _ = _; unfold lineB; rw [← h3, ← h2, ← h1, hT, hSL]
        have r1 : ∀ w : World, (Op.stringOp .add T ⟨#[32]⟩).run Tryd.prog w = .ok (.string T1) w := fun w => by rw [run_string_add_sum w T ⟨#[32]⟩ (show T.size + 1 ≤ 9223372036854775807 by omega), h1]
        have r2 : ∀ w : World, (Op.stringOp .add T1 SL).run Tryd.prog w = .ok (.string T2) w := fun w => by rw [run_string_add_sum w T1 SL (by omega), h2]
        have r3 : ∀ w : World, (Op.stringOp .add T2 ⟨#[10]⟩).run Tryd.prog w = .ok (.string T3) w := fun w => by rw [run_string_add_sum w T2 ⟨#[10]⟩ (show T2.size + 1 ≤ 9223372036854775807 by omega), h3]
        rw [HL3.out.symm] at HLN
        clear hyf hzf hy hf hz hT hSL h1 h2 h3 hlz hj
        go_wp2_with fail
        refine wp_region_held_drew (S := (fun w' => w'.cell? ⟨w.heap.size, 0, none⟩ = some (.slice (some ⟨b, off, none⟩) ks.length cap) ∧ w'.cell? ⟨w.heap.size, 1, none⟩ = some (.slice (some ⟨b', off', none⟩) ns.length cap') ∧ w'.cell? ⟨b, off + k, none⟩ = some (.string y) ∧ w'.cell? ⟨b', off' + k, none⟩ = some (.int .i64 (m : Int)) ∧ w'.cell? ⟨b, off + j, none⟩ = some (.string z))) (by kernel_rfl) ?_ (fun hHeld => ?_)
        · exact ⟨t0, t1, c0, d0, e0⟩
        refine wpAnyH_takeD (i := 0) (d := 16) (v := .pointer (some ⟨w.heap.size, 0, none⟩)) rfl (by kernel_rfl) (by kernel_rfl) (by kernel_rfl) (fun _ _ _ h => h) (Or.inl ⟨by rfl, by intro w hSw; (try dsimp only at hSw); go_simp⟩) (by assumption) rfl ?_
        simp only [Act.put, List.setIfInBounds_toArray, List.set_cons_zero, List.set_cons_succ]
        refine wpAnyH_takeD (i := 1) (d := 17) (v := .slice (some ⟨b, off, none⟩) ks.length cap) rfl (by kernel_rfl) (by kernel_rfl) (by kernel_rfl) (fun _ _ _ h => h) (Or.inl ⟨by rfl, by intro w hSw; (try dsimp only at hSw); go_simp⟩) (by assumption) rfl ?_
        simp only [Act.put, List.setIfInBounds_toArray, List.set_cons_zero, List.set_cons_succ]
        refine wpAnyH_takeD (i := 2) (d := 18) (v := .int .i64 (k : Int)) rfl (by kernel_rfl) (by kernel_rfl) (by kernel_rfl) (fun _ _ _ h => h) (Or.inl ⟨by rfl, by intro w hSw; (try dsimp only at hSw); go_simp⟩) (by assumption) rfl ?_
        simp only [Act.put, List.setIfInBounds_toArray, List.set_cons_zero, List.set_cons_succ]
        refine wpAnyH_takeD (i := 3) (d := 19) (v := .pointer (some ⟨b, off + k, none⟩)) rfl (by kernel_rfl) (by kernel_rfl) (by kernel_rfl) (fun _ _ _ h => h) (Or.inl ⟨by rfl, by intro w hSw; (try dsimp only at hSw); go_simp⟩) (by assumption) rfl ?_
        simp only [Act.put, List.setIfInBounds_toArray, List.set_cons_zero, List.set_cons_succ]
        refine wpAnyH_takeD (i := 4) (d := 20) (v := .string y) rfl (by kernel_rfl) (by kernel_rfl) (by kernel_rfl) (fun _ _ _ h => h) (Or.inl ⟨by rfl, by intro w hSw; (try dsimp only at hSw); go_simp⟩) (by assumption) rfl ?_
        simp only [Act.put, List.setIfInBounds_toArray, List.set_cons_zero, List.set_cons_succ]
        refine wpAnyH_takeD (i := 5) (d := 21) (v := .pointer (some ⟨w.heap.size, 1, none⟩)) rfl (by kernel_rfl) (by kernel_rfl) (by kernel_rfl) (fun _ _ _ h => h) (Or.inl ⟨by rfl, by intro w hSw; (try dsimp only at hSw); go_simp⟩) (by assumption) rfl ?_
        simp only [Act.put, List.setIfInBounds_toArray, List.set_cons_zero, List.set_cons_succ]
        refine wpAnyH_takeD (i := 6) (d := 22) (v := .slice (some ⟨b', off', none⟩) ns.length cap') rfl (by kernel_rfl) (by kernel_rfl) (by kernel_rfl) (fun _ _ _ h => h) (Or.inl ⟨by rfl, by intro w hSw; (try dsimp only at hSw); go_simp⟩) (by assumption) rfl ?_
        simp only [Act.put, List.setIfInBounds_toArray, List.set_cons_zero, List.set_cons_succ]
        refine wpAnyH_takeD (i := 7) (d := 23) (v := .int .i64 (k : Int)) rfl (by kernel_rfl) (by kernel_rfl) (by kernel_rfl) (fun _ _ _ h => h) (Or.inl ⟨by rfl, by intro w hSw; (try dsimp only at hSw); go_simp⟩) (by assumption) rfl ?_
        simp only [Act.put, List.setIfInBounds_toArray, List.set_cons_zero, List.set_cons_succ]
        refine wpAnyH_takeD (i := 8) (d := 24) (v := .pointer (some ⟨b', off' + k, none⟩)) rfl (by kernel_rfl) (by kernel_rfl) (by kernel_rfl) (fun _ _ _ h => h) (Or.inl ⟨by rfl, by intro w hSw; (try dsimp only at hSw); go_simp⟩) (by assumption) rfl ?_
        simp only [Act.put, List.setIfInBounds_toArray, List.set_cons_zero, List.set_cons_succ]
        refine wpAnyH_takeD (i := 9) (d := 25) (v := .int .i64 (m : Int)) rfl (by kernel_rfl) (by kernel_rfl) (by kernel_rfl) (fun _ _ _ h => h) (Or.inl ⟨by rfl, by intro w hSw; (try dsimp only at hSw); go_simp⟩) (by assumption) rfl ?_
        simp only [Act.put, List.setIfInBounds_toArray, List.set_cons_zero, List.set_cons_succ]
        refine wpAnyH_ready (rs := [10]) (by kernel_rfl) (by simp) ?_
        refine AllReadyH.cons rfl (fun K hK => ?_) AllReadyH.nil
        go_simp
        refine (implTurnText_any (World.drew wr) y (m : Int) (by omega) (by omega) (by omega) ((HTP.out.below (HB0.out.trans (L.out.mono HB0.out.size))).below (Below.refl _ _).drew)).mono ?_
        rintro e w2 ⟨rfl, hb2⟩
        have KB2 : Hid (Below wr.heap.size wr w2) := ((Below.refl _ _).drew).trans (hb2.mono (Nat.le_refl _))
        have Lw2 : Hid (Below W.heap.size W w2) := L.out.trans (KB2.out.mono L.out.size)
        have HBD2 : Hid (Lib.IsBuilder 63 5 w1.heap.size w1.heap.size (Lib.byteCells (linesR (ks, ns) k)) w2) := builder_below HBD.out KB2.out
        have LB2 : Hid (Below w1.heap.size w1 w2) := LB.out.trans (KB2.out.mono LB.out.size)
        rw [HT.out]
        clear hb2
        have u0 : w2.cell? ⟨w.heap.size, 0, none⟩ = some (.slice (some ⟨b, off, none⟩) ks.length cap) := (HCELL.out w2 Lw2.out).1
        have u1 : w2.cell? ⟨w.heap.size, 1, none⟩ = some (.slice (some ⟨b', off', none⟩) ns.length cap') := (HCELL.out w2 Lw2.out).2
        have u2 : w2.cell? ⟨b, off + k, none⟩ = some (.string y) := (KB2.out.cell (p := ⟨b, off + k, none⟩) hbl).trans c0
        have u3 : w2.cell? ⟨b', off' + k, none⟩ = some (.int .i64 (m : Int)) := (KB2.out.cell (p := ⟨b', off' + k, none⟩) hbl').trans d0
        have u4 : w2.cell? ⟨b, off + j, none⟩ = some (.string z) := (KB2.out.cell (p := ⟨b, off + j, none⟩) hbl2).trans e0
        refine hK.out _ _ ?_ (fun hHeld => ?_)
        · exact ⟨u0, u1, u2, u3, u4⟩
        clear hK K
        try simp only [Act.put, List.setIfInBounds_toArray, List.set_cons_zero, List.set_cons_succ]
        refine wpAnyH_takeD (i := 11) (d := 5) (v := .string T) rfl (by kernel_rfl) (by kernel_rfl) (by kernel_rfl) (fun _ _ _ h => h) (Or.inl ⟨by rfl, by intro w hSw; (try dsimp only at hSw); go_simp⟩) (by assumption) rfl ?_
        simp only [Act.put, List.setIfInBounds_toArray, List.set_cons_zero, List.set_cons_succ]
        refine wpAnyH_done (by kernel_rfl) ?_ _
        clear t0 t1 c0 d0 e0
        go_wp2_with fail
        refine (implSealOf_any _ z T HZF.out (by omega) (HTR.out.below (HB0.out.trans (Lw2.out.mono HB0.out.size))) (HTF.out.below (HB0.out.trans (Lw2.out.mono HB0.out.size)))).mono ?_
        rintro e w3 ⟨rfl, hb3⟩
        have HBD3 : Hid (Lib.IsBuilder 63 5 w1.heap.size w1.heap.size (Lib.byteCells (linesR (ks, ns) k)) w3) := builder_below HBD2.out hb3
        have LB3 : Hid (Below w1.heap.size w1 w3) := LB2.out.trans (hb3.mono LB2.out.size)
        rw [HSL.out]
        clear hb3 u0 u1 u2 u3 u4
        go_wp2_with fail
        refine (writeString_any w1.heap.size w1.heap.size _ T3 _ HBD3.out (by rw [Lib.byteCells_length]; omega) (by omega) LB3.out.size).mono ?_
        rintro e w4 ⟨⟨vr, rfl⟩, hbd4, hb4, _⟩
        have HBD4 : Hid (Lib.IsBuilder 63 5 w1.heap.size w1.heap.size (Lib.byteCells (linesR (ks, ns) (k + 1))) w4) := by
          show Lib.IsBuilder _ _ _ _ _ _
          rw [HLN.out, Lib.byteCells_append]
          exact hbd4
        have LB4 : Hid (Below w1.heap.size w1 w4) := LB3.out.trans hb4
        clear hbd4 hb4
        go_wp2
        go_roundw
        case rel => exact ⟨k + 1, by omega, by omega, by go_num, HBD4.out, LB4.out⟩
        case measure => simp [intOf]; omega
      · have hke : k = ks.length := by omega
        have HBE : Hid (Lib.IsBuilder 63 5 w1.heap.size w1.heap.size (Lib.byteCells (linesR (ks, ns) ks.length)) wr) := by
          have h1 := HBD.out
          rw [hke] at h1
          exact h1
        have hkn : ¬ ((k : Int) < (ks.length : Int)) := by omega
        clear hke HBD
        go_wp2_with fail
        refine (Tryd.Builder_String_any _ _ (linesR (ks, ns) ks.length) _ HBE.out LB.out.size).mono ?_
        rintro e w3 ⟨rfl, hb3⟩
        have HB3 : Hid (Below w.heap.size w w3) := (HB0.out.trans (X1.out.mono HB0.out.size)).trans ((LB.out.trans hb3).mono (Nat.le_trans HB0.out.size X1.out.size))
        clear hb3
        go_wp2
        go_ret
        exact ⟨ret_str448 (by rw [HM.out]), HB3.out⟩
set_option maxRecDepth 100000 in
set_option maxHeartbeats 8000000 in
theorem specRingPut_any (w : World) (v : Value) (x : RingM) (h : RingAt w v x) :
    Calls Tryd.prog 18 #[v] w fun e w' => e = .returned (.string (rgpT x)) ∧ Below w.heap.size w w' := by
  obtain ⟨va, vn, rfl, ha, hn⟩ := h
  obtain ⟨ks, ns⟩ := x
  simp only at ha hn
  obtain ⟨a, cap, rfl, hc, hm⟩ := ha.form
  obtain ⟨a', cap', rfl, hc', hm'⟩ := hn.form
  have HR : Hid (RingAt w (.agg #[.slice a ks.length cap, .slice a' ns.length cap']) (ks, ns)) := ⟨_, _, rfl, ha, hn⟩
  have HA : Hid (TextsAt w (.slice a ks.length cap) ks) := ha
  have HN : Hid (IntsAt w (.slice a' ns.length cap') ns) := hn
  obtain ⟨W, hW⟩ : ∃ W, w.alloc (.cells #[.slice a ks.length cap, .slice a' ns.length cap'] 31) = W := ⟨_, rfl⟩
  have N0 : W.heap[w.heap.size]? = some (.cells #[.slice a ks.length cap, .slice a' ns.length cap'] 31 (0, 0)) := by rw [← hW]; exact heap_alloc_last w _
  have HB0 : Hid (Below w.heap.size w W) := by show Below _ _ _; rw [← hW]; exact (Below.refl _ _).alloc (Nat.le_refl _) _
  have HW : Hid (w.alloc (.cells #[.slice a ks.length cap, .slice a' ns.length cap'] 31) = W) := hW
  have hzW : w.heap.size < W.heap.size := (Array.getElem?_eq_some_iff.1 N0).1
  have HCELL : Hid (∀ V, Below W.heap.size W V → V.cell? ⟨w.heap.size, 0, none⟩ = some (.slice a ks.length cap) ∧ V.cell? ⟨w.heap.size, 1, none⟩ = some (.slice a' ns.length cap')) := fun V hV => by
    have e0 : V.heap[w.heap.size]? = _ := (hV.block _ hzW).trans N0
    exact ⟨by rw [cell_of_row _ _ 0 _ _ _ e0]; rfl, by rw [cell_of_row _ _ 1 _ _ _ e0]; rfl⟩
  have HC : Hid (∀ (w : World) (v : Value) (x : RingM), RingAt w v x → Calls Tryd.prog 22 #[v] w fun e w' => e = .returned (.bool (ringOk x)) ∧ Below w.heap.size w w') := fun w v x h => specRingOk_any w v x h
  obtain ⟨s0, s1⟩ := HCELL.out W (Below.refl _ _)
  clear ha hn hc hc' hm hm' hW N0
  cases hok : ringOk (ks, ns) with
  | false =>
    have HM : Hid (rgpT (ks, ns) = ⟨#[]⟩) := by show _ = _; unfold rgpT; rw [hok]; rfl
    by_cases hl1 : (1 : Int) < (ks.length : Int)
    · go_enter Tryd.func18, Tryd.ntmps18
      go_wp2_with fail
      try rw [HW.out]
      go_loopw [3, 4] (fun x i wr => x = .string ⟨#[]⟩ ∧ i = .int .i64 1 ∧ wr = W) (fun _ _ _ => 0)
      case atStart => exact ⟨rfl, rfl, rfl⟩
      case round =>
        obtain ⟨rfl, rfl, rfl⟩ := hrel
        go_wp2_with fail
        refine (HC.out _ _ (ks, ns) (HR.out.below HB0.out)).mono ?_
        rintro e w1 ⟨rfl, hb1⟩
        rw [hok]
        have HB1 : Hid (Below w.heap.size w w1) := HB0.out.trans (hb1.mono HB0.out.size)
        clear hb1
        go_wp2
        go_ret
        exact ⟨ret_str448 (by rw [HM.out]), HB1.out⟩
    · go_enter Tryd.func18, Tryd.ntmps18
      go_wp2_with fail
      try rw [HW.out]
      go_loopw [3, 4] (fun x i wr => x = .string ⟨#[]⟩ ∧ i = .int .i64 1 ∧ wr = W) (fun _ _ _ => 0)
      case atStart => exact ⟨rfl, rfl, rfl⟩
      case round =>
        obtain ⟨rfl, rfl, rfl⟩ := hrel
        go_wp2
        go_ret
        exact ⟨ret_str448 (by rw [HM.out]), HB0.out⟩
  | true =>
    have HG : Hid (RingGood (ks, ns)) := ringOk_good hok
    have HM : Hid (rgpT (ks, ns) = ⟨(linesR (ks, ns) ks.length).toArray⟩) := by show _ = _; unfold rgpT; rw [hok]; rfl
    have hl1 : 1 ≤ ks.length := HG.out.1
    have hl5 : ks.length ≤ 5 := HG.out.2.1
    have HCR : Hid (∀ (w : World) (v : Value), RingAt w v (ks, ns) → Calls Tryd.prog 22 #[v] w fun e w' => e = .returned (.bool true) ∧ Below w.heap.size w w') := fun w v h => by
      have := HC.out w v (ks, ns) h
      rw [hok] at this
      exact this
    clear hok
    go_enter Tryd.func18, Tryd.ntmps18
    go_wp2_with fail
    try rw [HW.out]
    go_loopw [3, 4] (fun x i wr => ∃ (k : Nat), 1 ≤ k ∧ k ≤ ks.length ∧ x = .string ⟨(linesR (ks, ns) k).toArray⟩ ∧ i = .int .i64 k ∧ Below W.heap.size W wr) (fun _ i _ => ks.length - (intOf i).toNat)
    case atStart => exact ⟨1, Nat.le_refl _, hl1, rfl, rfl, Below.refl _ _⟩
    case round =>
      clear s0 s1
      obtain ⟨k, hk1, hk, rfl, rfl, hl0⟩ := hrel
      have L : Hid (Below W.heap.size W wr) := hl0
      obtain ⟨t0, t1⟩ := HCELL.out wr L.out
      have hll : (linesR (ks, ns) k).length ≤ 300 * k := linesR_len HG.out k hk
      clear hl0
      by_cases hlt : k < ks.length
      · skip
        obtain ⟨b, off, cp, y, hv, hbl, hy, hyf, c0⟩ := (HA.out.below (HB0.out.trans (L.out.mono HB0.out.size))).at (k := k) hlt
        cases hv
        obtain ⟨b', off', cp', f, hv', hbl', hf, d0⟩ := (HN.out.below (HB0.out.trans (L.out.mono HB0.out.size))).at (k := k) (by have h9 : ns.length = ks.length := HG.out.2.2.1; omega)
        cases hv'
        obtain ⟨j, hj⟩ : ∃ j, k - 1 = j := ⟨_, rfl⟩
        obtain ⟨b2, off2, cp2, z, hv2, hbl2, hz, hzf, e0⟩ := (HA.out.below (HB0.out.trans (L.out.mono HB0.out.size))).at (k := j) (by omega)
        cases hv2
        obtain ⟨g1, g2, g3⟩ := good_at HG.out hy hf
        have HLN : Hid (linesR (ks, ns) (k + 1) = linesR (ks, ns) k ++ (lineB y f z).data.toList) := by show _ = _; rw [linesR_next _ (by omega), lineR_at hy hf (by show ks[k - 1]? = some z; rw [hj]; exact hz)]
        have hlz := lineB_size (z := z) g1 (f := f) (by omega) (by omega)
        obtain ⟨m, rfl⟩ := Int.eq_ofNat_of_zero_le (show 0 ≤ f by omega)
        obtain ⟨T, hT⟩ : ∃ T, turnB y (m : Int) = T := ⟨_, rfl⟩
        have hTs : T.size ≤ 200 := by
          have h := turn_len (key := y) (fr := (m : Int)) (by omega) (by omega)
          have h3 : (turnB y (m : Int)).size = (turnL y (m : Int)).length := str_sz _
          rw [← hT, h3]
          omega
        obtain ⟨SL, hSL⟩ : ∃ T2, sealT z T = T2 := ⟨_, rfl⟩
        have hSLs : SL.size ≤ 64 := by rw [← hSL]; exact sealT_size _ _
        have HZF : Hid (z.size ≤ maxLen) := hzf
        have HSL : Hid (sealT z T = SL) := hSL
        have HT : Hid (turnB y (m : Int) = T) := hT
        have hj1 : IntKind.i64.wrap ((k : Int) - 1) = (j : Int) := by rw [show (k : Int) - 1 = (j : Int) by omega]; exact IntWalk.i64_in _ (by omega)
        have hj0 : (0 : Int) ≤ (j : Int) := by omega
        have hjn : (j : Int) < (ks.length : Int) := by omega
        have hk0 : (0 : Int) ≤ (k : Int) := by omega
        have hkn : (k : Int) < (ks.length : Int) := by omega
        have hkn2 : (k : Int) < (ns.length : Int) := by have h9 : ns.length = ks.length := HG.out.2.2.1; omega
        obtain ⟨O, hO⟩ : ∃ X, (⟨(linesR (ks, ns) k).toArray⟩ : ByteArray) = X := ⟨_, rfl⟩
        have z0 : O.size ≤ 1500 := by rw [← hO, str_sz]; omega
        obtain ⟨T1, h1⟩ : ∃ X, O ++ T = X := ⟨_, rfl⟩
        have z1 : T1.size ≤ 1700 := by rw [← h1, ByteArray.size_append]; omega
        obtain ⟨T2, h2⟩ : ∃ X, T1 ++ ⟨#[32]⟩ = X := ⟨_, rfl⟩
        have z2 : T2.size ≤ 1701 := by rw [← h2, ByteArray.size_append]; show T1.size + 1 ≤ 1701; omega
        obtain ⟨T3, h3⟩ : ∃ X, T2 ++ SL = X := ⟨_, rfl⟩
        have z3 : T3.size ≤ 1765 := by rw [← h3, ByteArray.size_append]; omega
        obtain ⟨T4, h4⟩ : ∃ X, T3 ++ ⟨#[10]⟩ = X := ⟨_, rfl⟩
        have HL4 : Hid (T4 = ⟨(linesR (ks, ns) (k + 1)).toArray⟩) := by
          show _ = _
          rw [HLN.out]
          unfold lineB
          rw [hT, hSL, ← h4, ← h3, ← h2, ← h1, ← hO]
          apply ByteArray.ext
          simp
        have r1 : ∀ w : World, (Op.stringOp .add O T).run Tryd.prog w = .ok (.string T1) w := fun w => by rw [run_string_add_sum w O T (by omega), h1]
        have r2 : ∀ w : World, (Op.stringOp .add T1 ⟨#[32]⟩).run Tryd.prog w = .ok (.string T2) w := fun w => by rw [run_string_add_sum w T1 ⟨#[32]⟩ (show T1.size + 1 ≤ 9223372036854775807 by omega), h2]
        have r3 : ∀ w : World, (Op.stringOp .add T2 SL).run Tryd.prog w = .ok (.string T3) w := fun w => by rw [run_string_add_sum w T2 SL (by omega), h3]
        have r4 : ∀ w : World, (Op.stringOp .add T3 ⟨#[10]⟩).run Tryd.prog w = .ok (.string T4) w := fun w => by rw [run_string_add_sum w T3 ⟨#[10]⟩ (show T3.size + 1 ≤ 9223372036854775807 by omega), h4]
        have hm9 : m ≤ 999999 := by omega
        rw [hO]
        clear hyf hzf hy hf hz hT hSL h1 h2 h3 h4 hlz hj hO HLN
        go_wp2_with fail
        refine (HCR.out _ _ (HR.out.below (HB0.out.trans (L.out.mono HB0.out.size)))).mono ?_
        rintro e w1 ⟨rfl, hb1⟩
        have KB1 : Hid (Below wr.heap.size wr w1) := hb1
        have Lw1 : Hid (Below W.heap.size W w1) := L.out.trans (KB1.out.mono L.out.size)
        clear hb1
        have u0 : w1.cell? ⟨w.heap.size, 0, none⟩ = some (.slice (some ⟨b, off, none⟩) ks.length cap) := (HCELL.out w1 Lw1.out).1
        have u1 : w1.cell? ⟨w.heap.size, 1, none⟩ = some (.slice (some ⟨b', off', none⟩) ns.length cap') := (HCELL.out w1 Lw1.out).2
        have u2 : w1.cell? ⟨b, off + k, none⟩ = some (.string y) := (KB1.out.cell (p := ⟨b, off + k, none⟩) hbl).trans c0
        have u3 : w1.cell? ⟨b', off' + k, none⟩ = some (.int .i64 (m : Int)) := (KB1.out.cell (p := ⟨b', off' + k, none⟩) hbl').trans d0
        have u4 : w1.cell? ⟨b, off + j, none⟩ = some (.string z) := (KB1.out.cell (p := ⟨b, off + j, none⟩) hbl2).trans e0
        clear t0 t1
        go_wp2_with fail
        refine wp_region_held_drew (S := (fun w' => w'.cell? ⟨w.heap.size, 0, none⟩ = some (.slice (some ⟨b, off, none⟩) ks.length cap) ∧ w'.cell? ⟨w.heap.size, 1, none⟩ = some (.slice (some ⟨b', off', none⟩) ns.length cap') ∧ w'.cell? ⟨b, off + k, none⟩ = some (.string y) ∧ w'.cell? ⟨b', off' + k, none⟩ = some (.int .i64 (m : Int)) ∧ w'.cell? ⟨b, off + j, none⟩ = some (.string z))) (by kernel_rfl) ?_ (fun hHeld => ?_)
        · exact ⟨u0, u1, u2, u3, u4⟩
        refine wpAnyH_takeD (i := 0) (d := 17) (v := .pointer (some ⟨w.heap.size, 0, none⟩)) rfl (by kernel_rfl) (by kernel_rfl) (by kernel_rfl) (fun _ _ _ h => h) (Or.inl ⟨by rfl, by intro w hSw; (try dsimp only at hSw); go_simp⟩) (by assumption) rfl ?_
        simp only [Act.put, List.setIfInBounds_toArray, List.set_cons_zero, List.set_cons_succ]
        refine wpAnyH_takeD (i := 1) (d := 18) (v := .slice (some ⟨b, off, none⟩) ks.length cap) rfl (by kernel_rfl) (by kernel_rfl) (by kernel_rfl) (fun _ _ _ h => h) (Or.inl ⟨by rfl, by intro w hSw; (try dsimp only at hSw); go_simp⟩) (by assumption) rfl ?_
        simp only [Act.put, List.setIfInBounds_toArray, List.set_cons_zero, List.set_cons_succ]
        refine wpAnyH_takeD (i := 2) (d := 19) (v := .int .i64 (k : Int)) rfl (by kernel_rfl) (by kernel_rfl) (by kernel_rfl) (fun _ _ _ h => h) (Or.inl ⟨by rfl, by intro w hSw; (try dsimp only at hSw); go_simp⟩) (by assumption) rfl ?_
        simp only [Act.put, List.setIfInBounds_toArray, List.set_cons_zero, List.set_cons_succ]
        refine wpAnyH_takeD (i := 3) (d := 20) (v := .pointer (some ⟨b, off + k, none⟩)) rfl (by kernel_rfl) (by kernel_rfl) (by kernel_rfl) (fun _ _ _ h => h) (Or.inl ⟨by rfl, by intro w hSw; (try dsimp only at hSw); go_simp⟩) (by assumption) rfl ?_
        simp only [Act.put, List.setIfInBounds_toArray, List.set_cons_zero, List.set_cons_succ]
        refine wpAnyH_takeD (i := 4) (d := 21) (v := .string y) rfl (by kernel_rfl) (by kernel_rfl) (by kernel_rfl) (fun _ _ _ h => h) (Or.inl ⟨by rfl, by intro w hSw; (try dsimp only at hSw); go_simp⟩) (by assumption) rfl ?_
        simp only [Act.put, List.setIfInBounds_toArray, List.set_cons_zero, List.set_cons_succ]
        refine wpAnyH_takeD (i := 5) (d := 22) (v := .pointer (some ⟨w.heap.size, 1, none⟩)) rfl (by kernel_rfl) (by kernel_rfl) (by kernel_rfl) (fun _ _ _ h => h) (Or.inl ⟨by rfl, by intro w hSw; (try dsimp only at hSw); go_simp⟩) (by assumption) rfl ?_
        simp only [Act.put, List.setIfInBounds_toArray, List.set_cons_zero, List.set_cons_succ]
        refine wpAnyH_takeD (i := 6) (d := 23) (v := .slice (some ⟨b', off', none⟩) ns.length cap') rfl (by kernel_rfl) (by kernel_rfl) (by kernel_rfl) (fun _ _ _ h => h) (Or.inl ⟨by rfl, by intro w hSw; (try dsimp only at hSw); go_simp⟩) (by assumption) rfl ?_
        simp only [Act.put, List.setIfInBounds_toArray, List.set_cons_zero, List.set_cons_succ]
        refine wpAnyH_takeD (i := 7) (d := 24) (v := .int .i64 (k : Int)) rfl (by kernel_rfl) (by kernel_rfl) (by kernel_rfl) (fun _ _ _ h => h) (Or.inl ⟨by rfl, by intro w hSw; (try dsimp only at hSw); go_simp⟩) (by assumption) rfl ?_
        simp only [Act.put, List.setIfInBounds_toArray, List.set_cons_zero, List.set_cons_succ]
        refine wpAnyH_takeD (i := 8) (d := 25) (v := .pointer (some ⟨b', off' + k, none⟩)) rfl (by kernel_rfl) (by kernel_rfl) (by kernel_rfl) (fun _ _ _ h => h) (Or.inl ⟨by rfl, by intro w hSw; (try dsimp only at hSw); go_simp⟩) (by assumption) rfl ?_
        simp only [Act.put, List.setIfInBounds_toArray, List.set_cons_zero, List.set_cons_succ]
        refine wpAnyH_takeD (i := 9) (d := 26) (v := .int .i64 (m : Int)) rfl (by kernel_rfl) (by kernel_rfl) (by kernel_rfl) (fun _ _ _ h => h) (Or.inl ⟨by rfl, by intro w hSw; (try dsimp only at hSw); go_simp⟩) (by assumption) rfl ?_
        simp only [Act.put, List.setIfInBounds_toArray, List.set_cons_zero, List.set_cons_succ]
        refine wpAnyH_takeD (i := 10) (d := 27) (v := .agg #[.string y, .int .i64 (m : Int), .string ⟨#[]⟩]) rfl (by kernel_rfl) (by kernel_rfl) (by kernel_rfl) (fun _ _ _ h => h) (Or.inl ⟨by rfl, by intro w hSw; (try dsimp only at hSw); go_simp⟩) (by assumption) rfl ?_
        simp only [Act.put, List.setIfInBounds_toArray, List.set_cons_zero, List.set_cons_succ]
        refine wpAnyH_ready (rs := [11]) (by kernel_rfl) (by simp) ?_
        refine AllReadyH.cons rfl (fun K hK => ?_) AllReadyH.nil
        go_simp
        obtain ⟨v2, hv2⟩ : ∃ x, (World.drew w1).alloc (.cells #[.string ⟨#[]⟩, .int .i64 0, .string ⟨#[]⟩] 28) = x := ⟨_, rfl⟩
        have KV2 : Hid (Below w1.heap.size w1 v2) := by show Below _ _ _; rw [← hv2]; exact ((Below.refl _ _).drew).alloc (Nat.le_refl _) _
        have NV2 : Hid (v2.heap[w1.heap.size]? = some (.cells #[.string ⟨#[]⟩, .int .i64 0, .string ⟨#[]⟩] 28 (0, 0))) := by show _ = _; rw [← hv2]; exact heap_alloc_last (World.drew w1) _
        have hdr : (World.alloc w1 (.cells #[.string ⟨#[]⟩, .int .i64 0, .string ⟨#[]⟩] 28)).drew = v2 := by rw [← hv2]; rfl
        first | rw [hdr] | rw [hv2]
        have Lv2 : Hid (Below W.heap.size W v2) := Lw1.out.trans (KV2.out.mono Lw1.out.size)
        have KW2 : Hid (Below wr.heap.size wr v2) := KB1.out.trans (KV2.out.mono KB1.out.size)
        clear hv2 hdr u0 u1 u2 u3 u4
        have u0 : v2.cell? ⟨w.heap.size, 0, none⟩ = some (.slice (some ⟨b, off, none⟩) ks.length cap) := (HCELL.out v2 Lv2.out).1
        have u1 : v2.cell? ⟨w.heap.size, 1, none⟩ = some (.slice (some ⟨b', off', none⟩) ns.length cap') := (HCELL.out v2 Lv2.out).2
        have u2 : v2.cell? ⟨b, off + k, none⟩ = some (.string y) := (KW2.out.cell (p := ⟨b, off + k, none⟩) hbl).trans c0
        have u3 : v2.cell? ⟨b', off' + k, none⟩ = some (.int .i64 (m : Int)) := (KW2.out.cell (p := ⟨b', off' + k, none⟩) hbl').trans d0
        have u4 : v2.cell? ⟨b, off + j, none⟩ = some (.string z) := (KW2.out.cell (p := ⟨b, off + j, none⟩) hbl2).trans e0
        refine hK.out _ _ ?_ (fun hHeld => ?_)
        · exact ⟨u0, u1, u2, u3, u4⟩
        clear hK K
        try simp only [Act.put, List.setIfInBounds_toArray, List.set_cons_zero, List.set_cons_succ]
        have HS3 : Hid ((Tryd.prog.info? 28).map (·.size) = some 3) := by show _ = _; kernel_rfl
        refine wpAnyH_ready (rs := [12]) (by kernel_rfl) (by simp) ?_
        refine AllReadyH.cons rfl (fun K hK => ?_) AllReadyH.nil
        refine step_store_row rfl 28 (.tmp 5) (.tmp 27) rfl w1.heap.size #[.string y, .int .i64 (m : Int), .string ⟨#[]⟩] rfl rfl 28 _ NV2.out HS3.out rfl (by simp [Value.oneCell']) rfl ?_
        obtain ⟨v3, hv3⟩ : ∃ x, v2.setRow w1.heap.size #[.string y, .int .i64 (m : Int), .string ⟨#[]⟩] = x := ⟨_, rfl⟩
        have NV3 : Hid (v3.heap[w1.heap.size]? = some (.cells #[.string y, .int .i64 (m : Int), .string ⟨#[]⟩] 28 (0, 0))) := by show _ = _; rw [← hv3]; exact setRow_heap _ _ _ _ _ _ NV2.out
        have KV3 : Hid (Below w1.heap.size w1 v3) := by show Below _ _ _; rw [← hv3]; exact below_setRow KV2.out (Nat.le_refl _) _
        have Lv3 : Hid (Below W.heap.size W v3) := Lw1.out.trans (KV3.out.mono Lw1.out.size)
        have KW3 : Hid (Below wr.heap.size wr v3) := KB1.out.trans (KV3.out.mono KB1.out.size)
        rw [hv3]
        clear hv3 u0 u1 u2 u3 u4
        have u0 : v3.cell? ⟨w.heap.size, 0, none⟩ = some (.slice (some ⟨b, off, none⟩) ks.length cap) := (HCELL.out v3 Lv3.out).1
        have u1 : v3.cell? ⟨w.heap.size, 1, none⟩ = some (.slice (some ⟨b', off', none⟩) ns.length cap') := (HCELL.out v3 Lv3.out).2
        have u2 : v3.cell? ⟨b, off + k, none⟩ = some (.string y) := (KW3.out.cell (p := ⟨b, off + k, none⟩) hbl).trans c0
        have u3 : v3.cell? ⟨b', off' + k, none⟩ = some (.int .i64 (m : Int)) := (KW3.out.cell (p := ⟨b', off' + k, none⟩) hbl').trans d0
        have u4 : v3.cell? ⟨b, off + j, none⟩ = some (.string z) := (KW3.out.cell (p := ⟨b, off + j, none⟩) hbl2).trans e0
        have hz3' : w1.heap.size < v3.heap.size := (Array.getElem?_eq_some_iff.1 NV3.out).1
        refine hK.out _ _ ?_ (fun hHeld => ?_)
        · exact ⟨u0, u1, u2, u3, u4⟩
        clear hK K
        refine wpAnyH_done (by kernel_rfl) ?_ _
        have HTC : Hid (∀ V, Below v3.heap.size v3 V → V.cell? ⟨w1.heap.size, 0, none⟩ = some (.string y) ∧ V.cell? ⟨w1.heap.size, 1, none⟩ = some (.int .i64 (m : Int)) ∧ V.cell? ⟨w1.heap.size, 2, none⟩ = some (.string ⟨#[]⟩)) := fun V hV => by
          have e9 : V.heap[w1.heap.size]? = _ := (hV.block _ hz3').trans NV3.out
          exact ⟨by rw [cell_of_row _ _ 0 _ _ _ e9]; rfl, by rw [cell_of_row _ _ 1 _ _ _ e9]; rfl, by rw [cell_of_row _ _ 2 _ _ _ e9]; rfl⟩
        obtain ⟨x0, x1, x2⟩ := HTC.out v3 (Below.refl _ _)
        go_wp2_with fail
        refine wp_region_held_drew (S := (fun w' => (w'.cell? ⟨w.heap.size, 0, none⟩ = some (.slice (some ⟨b, off, none⟩) ks.length cap) ∧ w'.cell? ⟨w.heap.size, 1, none⟩ = some (.slice (some ⟨b', off', none⟩) ns.length cap') ∧ w'.cell? ⟨b, off + k, none⟩ = some (.string y) ∧ w'.cell? ⟨b', off' + k, none⟩ = some (.int .i64 (m : Int)) ∧ w'.cell? ⟨b, off + j, none⟩ = some (.string z)) ∧ w'.cell? ⟨w1.heap.size, 0, none⟩ = some (.string y) ∧ w'.cell? ⟨w1.heap.size, 1, none⟩ = some (.int .i64 (m : Int)) ∧ w'.cell? ⟨w1.heap.size, 2, none⟩ = some (.string ⟨#[]⟩))) (by kernel_rfl) ?_ (fun hHeld => ?_)
        · exact ⟨⟨u0, u1, u2, u3, u4⟩, x0, x1, x2⟩
        refine wpAnyH_takeD (i := 0) (d := 28) (v := .string O) rfl (by kernel_rfl) (by kernel_rfl) (by kernel_rfl) (fun _ _ _ h => h) (Or.inl ⟨by rfl, by intro w hSw; (try dsimp only at hSw); go_simp⟩) (by assumption) rfl ?_
        simp only [Act.put, List.setIfInBounds_toArray, List.set_cons_zero, List.set_cons_succ]
        refine wpAnyH_takeD (i := 1) (d := 29) (v := .agg #[.string y, .int .i64 (m : Int), .string ⟨#[]⟩]) rfl (by kernel_rfl) (by kernel_rfl) (by kernel_rfl) (fun _ _ _ h => h) (Or.inl ⟨by rfl, by intro w hSw; (try dsimp only at hSw); go_simp⟩) (by assumption) rfl ?_
        simp only [Act.put, List.setIfInBounds_toArray, List.set_cons_zero, List.set_cons_succ]
        refine wpAnyH_takeD (i := 5) (d := 33) (v := .pointer (some ⟨w.heap.size, 0, none⟩)) rfl (by kernel_rfl) (by kernel_rfl) (by kernel_rfl) (fun _ _ _ h => h) (Or.inl ⟨by rfl, by intro w hSw; (try dsimp only at hSw); go_simp⟩) (by assumption) rfl ?_
        simp only [Act.put, List.setIfInBounds_toArray, List.set_cons_zero, List.set_cons_succ]
        refine wpAnyH_takeD (i := 6) (d := 34) (v := .slice (some ⟨b, off, none⟩) ks.length cap) rfl (by kernel_rfl) (by kernel_rfl) (by kernel_rfl) (fun _ _ _ h => h) (Or.inl ⟨by rfl, by intro w hSw; (try dsimp only at hSw); go_simp⟩) (by assumption) rfl ?_
        simp only [Act.put, List.setIfInBounds_toArray, List.set_cons_zero, List.set_cons_succ]
        refine wpAnyH_takeD (i := 7) (d := 35) (v := .int .i64 (k : Int)) rfl (by kernel_rfl) (by kernel_rfl) (by kernel_rfl) (fun _ _ _ h => h) (Or.inl ⟨by rfl, by intro w hSw; (try dsimp only at hSw); go_simp⟩) (by assumption) rfl ?_
        simp only [Act.put, List.setIfInBounds_toArray, List.set_cons_zero, List.set_cons_succ]
        refine wpAnyH_takeD (i := 8) (d := 36) (v := .int .i64 (j : Int)) rfl (by kernel_rfl) (by kernel_rfl) (by kernel_rfl) (fun _ _ _ h => h) (Or.inl ⟨by rfl, by intro w hSw; (try dsimp only at hSw); go_simp⟩) (by assumption) rfl ?_
        simp only [Act.put, List.setIfInBounds_toArray, List.set_cons_zero, List.set_cons_succ]
        refine wpAnyH_takeD (i := 9) (d := 37) (v := .pointer (some ⟨b, off + j, none⟩)) rfl (by kernel_rfl) (by kernel_rfl) (by kernel_rfl) (fun _ _ _ h => h) (Or.inl ⟨by rfl, by intro w hSw; (try dsimp only at hSw); go_simp⟩) (by assumption) rfl ?_
        simp only [Act.put, List.setIfInBounds_toArray, List.set_cons_zero, List.set_cons_succ]
        refine wpAnyH_takeD (i := 10) (d := 38) (v := .string z) rfl (by kernel_rfl) (by kernel_rfl) (by kernel_rfl) (fun _ _ _ h => h) (Or.inl ⟨by rfl, by intro w hSw; (try dsimp only at hSw); go_simp⟩) (by assumption) rfl ?_
        simp only [Act.put, List.setIfInBounds_toArray, List.set_cons_zero, List.set_cons_succ]
        refine wpAnyH_takeD (i := 11) (d := 39) (v := .agg #[.string y, .int .i64 (m : Int), .string ⟨#[]⟩]) rfl (by kernel_rfl) (by kernel_rfl) (by kernel_rfl) (fun _ _ _ h => h) (Or.inl ⟨by rfl, by intro w hSw; (try dsimp only at hSw); go_simp⟩) (by assumption) rfl ?_
        simp only [Act.put, List.setIfInBounds_toArray, List.set_cons_zero, List.set_cons_succ]
        refine wpAnyH_ready (rs := [2]) (by kernel_rfl) (by simp) ?_
        refine AllReadyH.cons rfl (fun K hK => ?_) AllReadyH.nil
        go_simp
        refine (l11Text_any _ y ⟨#[]⟩ m g1 hm9).mono ?_
        rintro e w5 ⟨rfl, hbw5⟩
        have Mw5 : Hid (Below v3.heap.size v3 w5) := ((Below.refl _ _).drew).trans (hbw5.mono (Nat.le_refl _))
        have Lw5 : Hid (Below W.heap.size W w5) := Lv3.out.trans (Mw5.out.mono Lv3.out.size)
        have Kw5 : Hid (Below wr.heap.size wr w5) := KW3.out.trans (Mw5.out.mono KW3.out.size)
        rw [HT.out]
        clear hbw5 u0 u1 u2 u3 u4 x0 x1 x2
        have u0 : w5.cell? ⟨w.heap.size, 0, none⟩ = some (.slice (some ⟨b, off, none⟩) ks.length cap) := (HCELL.out w5 Lw5.out).1
        have u1 : w5.cell? ⟨w.heap.size, 1, none⟩ = some (.slice (some ⟨b', off', none⟩) ns.length cap') := (HCELL.out w5 Lw5.out).2
        have u2 : w5.cell? ⟨b, off + k, none⟩ = some (.string y) := (Kw5.out.cell (p := ⟨b, off + k, none⟩) hbl).trans c0
        have u3 : w5.cell? ⟨b', off' + k, none⟩ = some (.int .i64 (m : Int)) := (Kw5.out.cell (p := ⟨b', off' + k, none⟩) hbl').trans d0
        have u4 : w5.cell? ⟨b, off + j, none⟩ = some (.string z) := (Kw5.out.cell (p := ⟨b, off + j, none⟩) hbl2).trans e0
        obtain ⟨x0, x1, x2⟩ := HTC.out w5 Mw5.out
        refine hK.out _ _ ?_ (fun hHeld => ?_)
        · exact ⟨⟨u0, u1, u2, u3, u4⟩, x0, x1, x2⟩
        clear hK K
        try simp only [Act.put, List.setIfInBounds_toArray, List.set_cons_zero, List.set_cons_succ]
        refine wpAnyH_takeD (i := 3) (d := 31) (v := .string T1) rfl (by kernel_rfl) (by kernel_rfl) (by kernel_rfl) (fun _ _ _ h => h) (Or.inl ⟨by rfl, by intro w hSw; (try dsimp only at hSw); go_simp⟩) (by assumption) rfl ?_
        simp only [Act.put, List.setIfInBounds_toArray, List.set_cons_zero, List.set_cons_succ]
        refine wpAnyH_takeD (i := 4) (d := 32) (v := .string T2) rfl (by kernel_rfl) (by kernel_rfl) (by kernel_rfl) (fun _ _ _ h => h) (Or.inl ⟨by rfl, by intro w hSw; (try dsimp only at hSw); go_simp⟩) (by assumption) rfl ?_
        simp only [Act.put, List.setIfInBounds_toArray, List.set_cons_zero, List.set_cons_succ]
        refine wpAnyH_ready (rs := [12]) (by kernel_rfl) (by simp) ?_
        refine AllReadyH.cons rfl (fun K hK => ?_) AllReadyH.nil
        go_simp
        refine (l11Text_any _ y ⟨#[]⟩ m g1 hm9).mono ?_
        rintro e w6 ⟨rfl, hbw6⟩
        have Mw6 : Hid (Below v3.heap.size v3 w6) := Mw5.out.trans (hbw6.mono Mw5.out.size)
        have Lw6 : Hid (Below W.heap.size W w6) := Lv3.out.trans (Mw6.out.mono Lv3.out.size)
        have Kw6 : Hid (Below wr.heap.size wr w6) := KW3.out.trans (Mw6.out.mono KW3.out.size)
        rw [HT.out]
        clear hbw6 u0 u1 u2 u3 u4 x0 x1 x2
        have u0 : w6.cell? ⟨w.heap.size, 0, none⟩ = some (.slice (some ⟨b, off, none⟩) ks.length cap) := (HCELL.out w6 Lw6.out).1
        have u1 : w6.cell? ⟨w.heap.size, 1, none⟩ = some (.slice (some ⟨b', off', none⟩) ns.length cap') := (HCELL.out w6 Lw6.out).2
        have u2 : w6.cell? ⟨b, off + k, none⟩ = some (.string y) := (Kw6.out.cell (p := ⟨b, off + k, none⟩) hbl).trans c0
        have u3 : w6.cell? ⟨b', off' + k, none⟩ = some (.int .i64 (m : Int)) := (Kw6.out.cell (p := ⟨b', off' + k, none⟩) hbl').trans d0
        have u4 : w6.cell? ⟨b, off + j, none⟩ = some (.string z) := (Kw6.out.cell (p := ⟨b, off + j, none⟩) hbl2).trans e0
        obtain ⟨x0, x1, x2⟩ := HTC.out w6 Mw6.out
        refine hK.out _ _ ?_ (fun hHeld => ?_)
        · exact ⟨⟨u0, u1, u2, u3, u4⟩, x0, x1, x2⟩
        clear hK K
        try simp only [Act.put, List.setIfInBounds_toArray, List.set_cons_zero, List.set_cons_succ]
        refine wpAnyH_ready (rs := [13]) (by kernel_rfl) (by simp) ?_
        refine AllReadyH.cons rfl (fun K hK => ?_) AllReadyH.nil
        go_simp
        refine (specSealOf_any _ z T HZF.out (by omega)).mono ?_
        rintro e w7 ⟨rfl, hbw7⟩
        have Mw7 : Hid (Below v3.heap.size v3 w7) := Mw6.out.trans (hbw7.mono Mw6.out.size)
        have Lw7 : Hid (Below W.heap.size W w7) := Lv3.out.trans (Mw7.out.mono Lv3.out.size)
        have Kw7 : Hid (Below wr.heap.size wr w7) := KW3.out.trans (Mw7.out.mono KW3.out.size)
        rw [HSL.out]
        clear hbw7 u0 u1 u2 u3 u4 x0 x1 x2
        have u0 : w7.cell? ⟨w.heap.size, 0, none⟩ = some (.slice (some ⟨b, off, none⟩) ks.length cap) := (HCELL.out w7 Lw7.out).1
        have u1 : w7.cell? ⟨w.heap.size, 1, none⟩ = some (.slice (some ⟨b', off', none⟩) ns.length cap') := (HCELL.out w7 Lw7.out).2
        have u2 : w7.cell? ⟨b, off + k, none⟩ = some (.string y) := (Kw7.out.cell (p := ⟨b, off + k, none⟩) hbl).trans c0
        have u3 : w7.cell? ⟨b', off' + k, none⟩ = some (.int .i64 (m : Int)) := (Kw7.out.cell (p := ⟨b', off' + k, none⟩) hbl').trans d0
        have u4 : w7.cell? ⟨b, off + j, none⟩ = some (.string z) := (Kw7.out.cell (p := ⟨b, off + j, none⟩) hbl2).trans e0
        obtain ⟨x0, x1, x2⟩ := HTC.out w7 Mw7.out
        refine hK.out _ _ ?_ (fun hHeld => ?_)
        · exact ⟨⟨u0, u1, u2, u3, u4⟩, x0, x1, x2⟩
        clear hK K
        try simp only [Act.put, List.setIfInBounds_toArray, List.set_cons_zero, List.set_cons_succ]
        refine wpAnyH_takeD (i := 14) (d := 42) (v := .string T3) rfl (by kernel_rfl) (by kernel_rfl) (by kernel_rfl) (fun _ _ _ h => h) (Or.inl ⟨by rfl, by intro w hSw; (try dsimp only at hSw); go_simp⟩) (by assumption) rfl ?_
        simp only [Act.put, List.setIfInBounds_toArray, List.set_cons_zero, List.set_cons_succ]
        refine wpAnyH_takeD (i := 15) (d := 43) (v := .string T4) rfl (by kernel_rfl) (by kernel_rfl) (by kernel_rfl) (fun _ _ _ h => h) (Or.inl ⟨by rfl, by intro w hSw; (try dsimp only at hSw); go_simp⟩) (by assumption) rfl ?_
        simp only [Act.put, List.setIfInBounds_toArray, List.set_cons_zero, List.set_cons_succ]
        refine wpAnyH_takeD (i := 16) (d := 3) (v := .string T4) rfl (by kernel_rfl) (by kernel_rfl) (by kernel_rfl) (fun _ _ _ h => h) (Or.inl ⟨by rfl, by intro w hSw; (try dsimp only at hSw); go_simp⟩) (by assumption) rfl ?_
        simp only [Act.put, List.setIfInBounds_toArray, List.set_cons_zero, List.set_cons_succ]
        refine wpAnyH_done (by kernel_rfl) ?_ _
        go_wp2
        go_roundw
        case rel => exact ⟨k + 1, by omega, by omega, by rw [HL4.out], by go_num, Lw7.out⟩
        case measure => simp [intOf]; omega
      · have hke : k = ks.length := by omega
        have HE : Hid ((⟨(linesR (ks, ns) k).toArray⟩ : ByteArray) = rgpT (ks, ns)) := by show _ = _; rw [HM.out, hke]
        have hkn : ¬ ((k : Int) < (ks.length : Int)) := by omega
        clear hke
        go_wp2
        go_ret
        exact ⟨ret_str448 HE.out, HB0.out.trans (L.out.mono HB0.out.size)⟩
end Go.Proofs.YtmphcglglnlplaaDoor
