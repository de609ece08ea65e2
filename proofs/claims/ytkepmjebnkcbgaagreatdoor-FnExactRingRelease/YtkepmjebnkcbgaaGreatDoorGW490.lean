/-
  A release from a book to another one: ReleaseOf of both.
-/
import Derived.Test.YtkepmjebnkcbgaaGreatDoorGW486
import Derived.Test.YtkepmjebnkcbgaaGreatDoorW471
import Derived.Test.YtkepmjebnkcbgaaGreatDoorGM49
import Derived.Test.YtkepmjebnkcbgaaGreatDoorW148
import Derived.Test.YtkepmjebnkcbgaaGreatDoorGW2
import Derived.Test.YtkepmjebnkcbgaaGreatDoorGW404
import Derived.Deep.DeepCutAuto
namespace Go.Proofs.YtkepmjebnkcbgaaGreatDoor
open Go.RowKit
set_option linter.unusedVariables false
def rofC (key : ByteArray) (n : Int) (xa : List Aff) (ea : List (ByteArray × ByteArray)) (xb : List Aff) (eb : List (ByteArray × ByteArray)) : ReleaseM :=
  (n + 1, dofT xa ea xb eb, hashT (bputT xb eb), sealT key (mkT (relL (n + 1, dofT xa ea xb eb, hashT (bputT xb eb), ⟨#[]⟩))))
def rofG (key : ByteArray) (n : Int) (xa : List Aff) (ea : List (ByteArray × ByteArray)) (xb : List Aff) (eb : List (ByteArray × ByteArray)) : Bool :=
  keyT key && ((decide (0 ≤ n) && decide (n ≤ 999998)) && (bookT xa ea && bookT xb eb))
def rofB (key : ByteArray) (n : Int) (xa : List Aff) (ea : List (ByteArray × ByteArray)) (xb : List Aff) (eb : List (ByteArray × ByteArray)) : Bool :=
  rofG key n xa ea xb eb && formT (rofC key n xa ea xb eb)
/-- What ReleaseOf answers. -/
def rofT (key : ByteArray) (n : Int) (xa : List Aff) (ea : List (ByteArray × ByteArray)) (xb : List Aff) (eb : List (ByteArray × ByteArray)) : ReleaseM :=
  if rofB key n xa ea xb eb then rofC key n xa ea xb eb else (0, ([], [], false, []), ⟨#[]⟩, ⟨#[]⟩)
theorem rof_no {key : ByteArray} {n : Int} {xa : List Aff} {ea : List (ByteArray × ByteArray)} {xb : List Aff} {eb : List (ByteArray × ByteArray)} (h : rofG key n xa ea xb eb = false) : rofB key n xa ea xb eb = false ∧ rofT key n xa ea xb eb = (0, ([], [], false, []), ⟨#[]⟩, ⟨#[]⟩) := by
  have e : rofB key n xa ea xb eb = false := by unfold rofB; rw [h]; rfl
  exact ⟨e, by unfold rofT; rw [e]; rfl⟩
theorem rof_is {key : ByteArray} {n : Int} {xa : List Aff} {ea : List (ByteArray × ByteArray)} {xb : List Aff} {eb : List (ByteArray × ByteArray)} (h : rofG key n xa ea xb eb = true) {X : ReleaseM} (hX : rofC key n xa ea xb eb = X) {b : Bool} (hb : formT X = b) : rofB key n xa ea xb eb = b ∧ rofT key n xa ea xb eb = if b then X else (0, ([], [], false, []), ⟨#[]⟩, ⟨#[]⟩) := by
  have e : rofB key n xa ea xb eb = b := by unfold rofB; rw [h, hX, hb]; rfl
  exact ⟨e, by unfold rofT; rw [e, hX]⟩
theorem bput_small {xs : List Aff} {es : List (ByteArray × ByteArray)} (h : bookT xs es = true) : bputT xs es = mkT (putA xs ++ putE es) ∧ (mkT (putA xs ++ putE es)).size ≤ 1000000 := by
  obtain ⟨h1, h2, h3, h4⟩ := book_parts h
  have k1 := putA_length h3 xs.length (Nat.le_refl _)
  have k2 := putE_length h4 es.length (Nat.le_refl _)
  rw [List.take_length] at k1 k2
  refine ⟨if_pos h, ?_⟩
  rw [mk_size, List.length_append]
  have q1 : 5006 * xs.length ≤ 5006 * 8 := Nat.mul_le_mul_left _ h1
  have q2 : 2002 * es.length ≤ 2002 * 24 := Nat.mul_le_mul_left _ h2
  omega
theorem wrap488 {n : Int} (h0 : 0 ≤ n) (h1 : n ≤ 999998) : IntKind.i64.wrap (n + 1) = n + 1 := IntWalk.i64_in _ (by omega)
theorem sealT_size488 (key text : ByteArray) : (sealT key text).size ≤ 64 := by
  unfold sealT
  split
  · rw [str_sz, hex_len, digB_len]
    omega
  · exact Nat.zero_le _
theorem hash_size (s : ByteArray) : (hashT s).size = 64 := by
  unfold hashT
  rw [str_sz, hex_len, digest_len]
  rfl
theorem relL_len {n : Int} {d : DeltaM} {su se : ByteArray} (h0 : 1 ≤ n) (h1 : n ≤ 999999) (hd : deltaT d.1 d.2.1 d.2.2.1 d.2.2.2 = true) (hs : su.size = 64) : (mkT (relL (n, d, su, se))).size ≤ 300000 := by
  have k1 := itoa_len h0 h1
  have k2 := dputL_len hd
  rw [mk_size]
  unfold relL
  simp only [List.length_append, List.length_cons, List.length_nil, bl_length]
  omega
theorem relOwn_sets488 {lo hi q : Nat} {w : World} {v : Value} {x : DeltaM} (h : DeltaOwn lo hi w v x) (hq : q < lo ∨ hi ≤ q) (u0 u1 u2 u3 u4 u5 u6 : Value) : DeltaOwn lo hi (((((((w.setCell ⟨q, 0, none⟩ u0).setCell ⟨q, 1, none⟩ u1).setCell ⟨q, 2, none⟩ u2).setCell ⟨q, 3, none⟩ u3).setCell ⟨q, 4, none⟩ u4).setCell ⟨q, 5, none⟩ u5).setCell ⟨q, 6, none⟩ u6) v x :=
  deltaOwn_set486 (deltaOwn_set486 (deltaOwn_set486 (deltaOwn_set486 (deltaOwn_set486 (deltaOwn_set486 (deltaOwn_set486 h hq _) hq _) hq _) hq _) hq _) hq _) hq _
theorem size_sets488 (w : World) (q : Nat) (u0 u1 u2 u3 u4 u5 u6 : Value) : (((((((w.setCell ⟨q, 0, none⟩ u0).setCell ⟨q, 1, none⟩ u1).setCell ⟨q, 2, none⟩ u2).setCell ⟨q, 3, none⟩ u3).setCell ⟨q, 4, none⟩ u4).setCell ⟨q, 5, none⟩ u5).setCell ⟨q, 6, none⟩ u6).heap.size = w.heap.size := by simp only [Go.Deep.nblk_setCell]
theorem below_sets488 {B q : Nat} {w0 w : World} (h : Below B w0 w) (hq : B ≤ q) (u0 u1 u2 u3 u4 u5 u6 : Value) : Below B w0 (((((((w.setCell ⟨q, 0, none⟩ u0).setCell ⟨q, 1, none⟩ u1).setCell ⟨q, 2, none⟩ u2).setCell ⟨q, 3, none⟩ u3).setCell ⟨q, 4, none⟩ u4).setCell ⟨q, 5, none⟩ u5).setCell ⟨q, 6, none⟩ u6) :=
  ((((((h.setCell hq _).setCell hq _).setCell hq _).setCell hq _).setCell hq _).setCell hq _).setCell hq _
set_option maxRecDepth 100000 in
set_option maxHeartbeats 8000000 in
theorem implReleaseOf_any (w : World) (key : ByteArray) (n : Int) (va ve ua ue : Value) (xa : List Aff) (ea : List (ByteArray × ByteArray)) (xb : List Aff) (eb : List (ByteArray × ByteArray)) (hk : key.size ≤ maxLen) (ha : AffsAt w va xa) (he : EntsAt w ve ea) (ha' : AffsAt w ua xb) (he' : EntsAt w ue eb) (hP : powTab w) (hR : roundTab w) (hF : firstTab w) :
    Calls Tryz.prog 19 #[.string key, .int .i64 n, .agg #[va, ve], .agg #[ua, ue]] w fun e w' => ∃ v, e = .returned (.tuple #[v, .bool (rofB key n xa ea xb eb)]) ∧ RelOwn w.heap.size w'.heap.size w' v (rofT key n xa ea xb eb) ∧ Below w.heap.size w w' := by
  obtain ⟨a0, cap0, rfl, hc0, hm0⟩ := ha.form
  obtain ⟨a1, cap1, rfl, hc1, hm1⟩ := he.form
  obtain ⟨a2, cap2, rfl, hc2, hm2⟩ := ha'.form
  obtain ⟨a3, cap3, rfl, hc3, hm3⟩ := he'.form
  have HA : Hid (AffsAt w (.slice a0 xa.length cap0) xa ∧ EntsAt w (.slice a1 ea.length cap1) ea) := ⟨ha, he⟩
  have HA' : Hid (AffsAt w (.slice a2 xb.length cap2) xb ∧ EntsAt w (.slice a3 eb.length cap3) eb) := ⟨ha', he'⟩
  have HT : Hid (powTab w ∧ roundTab w ∧ firstTab w) := ⟨hP, hR, hF⟩
  have HK : Hid (key.size ≤ maxLen) := hk
  obtain ⟨W, hW⟩ : ∃ W, ((w.alloc (.cells #[.slice a0 xa.length cap0, .slice a1 ea.length cap1] 43)).alloc (.cells #[.slice a2 xb.length cap2, .slice a3 eb.length cap3] 43)).alloc (.cells #[.int .i64 0, .slice none 0 0, .slice none 0 0, .bool false, .slice none 0 0, .string ⟨#[]⟩, .string ⟨#[]⟩] 37) = W := ⟨_, rfl⟩
  have hz2 : ((w.alloc (.cells #[.slice a0 xa.length cap0, .slice a1 ea.length cap1] 43)).alloc (.cells #[.slice a2 xb.length cap2, .slice a3 eb.length cap3] 43)).heap.size = w.heap.size + 1 + 1 := by simp
  have N0 : W.heap[w.heap.size]? = some (.cells #[.slice a0 xa.length cap0, .slice a1 ea.length cap1] 43 (0, 0)) := by
    rw [← hW, Below.heap_alloc _ _ _ (by rw [hz2]; omega)]
    exact heap_alloc2_old _ _ _
  have N1 : W.heap[w.heap.size + 1]? = some (.cells #[.slice a2 xb.length cap2, .slice a3 eb.length cap3] 43 (0, 0)) := by
    rw [← hW, Below.heap_alloc _ _ _ (by rw [hz2]; omega)]
    exact heap_alloc2_new _ _ _
  have N2 : W.heap[w.heap.size + 1 + 1]? = some (.cells #[.int .i64 0, .slice none 0 0, .slice none 0 0, .bool false, .slice none 0 0, .string ⟨#[]⟩, .string ⟨#[]⟩] 37 (0, 0)) := by
    have h9 := heap_alloc_last ((w.alloc (.cells #[.slice a0 xa.length cap0, .slice a1 ea.length cap1] 43)).alloc (.cells #[.slice a2 xb.length cap2, .slice a3 eb.length cap3] 43)) (.cells #[.int .i64 0, .slice none 0 0, .slice none 0 0, .bool false, .slice none 0 0, .string ⟨#[]⟩, .string ⟨#[]⟩] 37)
    rw [hz2, hW] at h9
    exact h9
  have HB0 : Hid (Below w.heap.size w W) := by show Below _ _ _; rw [← hW]; exact (((Below.refl _ _).alloc (Nat.le_refl _) _).alloc (by simp <;> omega) _).alloc (by simp <;> omega) _
  have hz9 : w.heap.size + 1 + 1 < W.heap.size := (Array.getElem?_eq_some_iff.1 N2).1
  have HW : Hid (((w.alloc (.cells #[.slice a0 xa.length cap0, .slice a1 ea.length cap1] 43)).alloc (.cells #[.slice a2 xb.length cap2, .slice a3 eb.length cap3] 43)).alloc (.cells #[.int .i64 0, .slice none 0 0, .slice none 0 0, .bool false, .slice none 0 0, .string ⟨#[]⟩, .string ⟨#[]⟩] 37) = W) := hW
  have HC : Hid (∀ V, Below W.heap.size W V → V.cell? ⟨w.heap.size, 0, none⟩ = some (.slice a0 xa.length cap0) ∧ V.cell? ⟨w.heap.size, 1, none⟩ = some (.slice a1 ea.length cap1) ∧ V.cell? ⟨w.heap.size + 1, 0, none⟩ = some (.slice a2 xb.length cap2) ∧ V.cell? ⟨w.heap.size + 1, 1, none⟩ = some (.slice a3 eb.length cap3)) := fun V hV => by
    have e0 : V.heap[w.heap.size]? = _ := (hV.block _ (by omega)).trans N0
    have e1 : V.heap[w.heap.size + 1]? = _ := (hV.block _ (by omega)).trans N1
    exact ⟨by rw [cell_of_row _ _ 0 _ _ _ e0]; rfl, by rw [cell_of_row _ _ 1 _ _ _ e0]; rfl, by rw [cell_of_row _ _ 0 _ _ _ e1]; rfl, by rw [cell_of_row _ _ 1 _ _ _ e1]; rfl⟩
  have HZ : Hid (∀ V, Below W.heap.size W V → (V.cell? ⟨w.heap.size + 1 + 1, 0, none⟩ = some (.int .i64 0) ∧ V.cell? ⟨w.heap.size + 1 + 1, 1, none⟩ = some (.slice none 0 0) ∧ V.cell? ⟨w.heap.size + 1 + 1, 2, none⟩ = some (.slice none 0 0) ∧ V.cell? ⟨w.heap.size + 1 + 1, 3, none⟩ = some (.bool false) ∧ V.cell? ⟨w.heap.size + 1 + 1, 4, none⟩ = some (.slice none 0 0) ∧ V.cell? ⟨w.heap.size + 1 + 1, 5, none⟩ = some (.string ⟨#[]⟩) ∧ V.cell? ⟨w.heap.size + 1 + 1, 6, none⟩ = some (.string ⟨#[]⟩)) ∧ ∀ i, V.frozen? ⟨w.heap.size + 1 + 1, i, none⟩ = false) := fun V hV => by
    have e2 : V.heap[w.heap.size + 1 + 1]? = _ := (hV.block _ hz9).trans N2
    exact ⟨⟨by rw [cell_of_row _ _ 0 _ _ _ e2]; rfl, by rw [cell_of_row _ _ 1 _ _ _ e2]; rfl, by rw [cell_of_row _ _ 2 _ _ _ e2]; rfl, by rw [cell_of_row _ _ 3 _ _ _ e2]; rfl, by rw [cell_of_row _ _ 4 _ _ _ e2]; rfl, by rw [cell_of_row _ _ 5 _ _ _ e2]; rfl, by rw [cell_of_row _ _ 6 _ _ _ e2]; rfl⟩, fun i => frozen_of_row _ _ i _ _ e2⟩
  obtain ⟨s0, s1, s2, s3⟩ := HC.out W (Below.refl _ _)
  clear ha he ha' he' hP hR hF hk hW N0 N1 N2 hz2
  cases hkt : keyT key with
  | false =>
    have HNO : Hid (rofB key n xa ea xb eb = false ∧ rofT key n xa ea xb eb = (0, ([], [], false, []), ⟨#[]⟩, ⟨#[]⟩)) := rof_no (by unfold rofG; rw [hkt]; rfl)
    go_enter Tryz.func19, Tryz.ntmps19
    go_wp2_with fail
    try rw [HW.out]
    refine (keyOk_any key _ HK.out).mono ?_
    rintro e w1 ⟨rfl, hw⟩
    have hw2 := hw.symm
    clear hw
    subst hw2
    rw [hkt]
    obtain ⟨⟨d0, d1, d2, d3, d4, d5, d6⟩, fz⟩ := HZ.out W (Below.refl _ _)
    have HBV : Hid (Below w.heap.size w W) := HB0.out.trans (Below.mono (Below.refl _ _) HB0.out.size)
    have f0 := fz 0
    have f1 := fz 1
    have f2 := fz 2
    have f3 := fz 3
    have f4 := fz 4
    have f5 := fz 5
    have f6 := fz 6
    clear fz s0 s1 s2 s3
    go_wp2
    refine bodyPost_ret (v := .tuple #[.agg #[.int .i64 0, .slice none 0 0, .slice none 0 0, .bool false, .slice none 0 0, .string ⟨#[]⟩, .string ⟨#[]⟩], .bool false]) (by simp [results, Tryz.results19, go_sem, d0, d1, d2, d3, d4, d5, d6, World.cell?_setCell_same', World.cell?_setCell_other]) rfl ⟨_, by rw [HNO.out.1], by rw [HNO.out.2]; exact relNil486 _ _ _, ?_⟩
    exact below_sets488 HBV.out (by omega) _ _ _ _ _ _ _
  | true =>
    have HKT : Hid (keyT key = true) := hkt
    by_cases h0 : n < 0
    · skip
      have HNO : Hid (rofB key n xa ea xb eb = false ∧ rofT key n xa ea xb eb = (0, ([], [], false, []), ⟨#[]⟩, ⟨#[]⟩)) := rof_no (by unfold rofG; rw [hkt, decide_eq_false (show ¬ (0 ≤ n) by omega)]; rfl)
      go_enter Tryz.func19, Tryz.ntmps19
      go_wp2_with fail
      try rw [HW.out]
      refine (keyOk_any key _ HK.out).mono ?_
      rintro e w1 ⟨rfl, hw⟩
      have hw2 := hw.symm
      clear hw
      subst hw2
      rw [hkt]
      obtain ⟨⟨d0, d1, d2, d3, d4, d5, d6⟩, fz⟩ := HZ.out W (Below.refl _ _)
      have HBV : Hid (Below w.heap.size w W) := HB0.out.trans (Below.mono (Below.refl _ _) HB0.out.size)
      have f0 := fz 0
      have f1 := fz 1
      have f2 := fz 2
      have f3 := fz 3
      have f4 := fz 4
      have f5 := fz 5
      have f6 := fz 6
      clear fz s0 s1 s2 s3
      go_wp2
      refine bodyPost_ret (v := .tuple #[.agg #[.int .i64 0, .slice none 0 0, .slice none 0 0, .bool false, .slice none 0 0, .string ⟨#[]⟩, .string ⟨#[]⟩], .bool false]) (by simp [results, Tryz.results19, go_sem, d0, d1, d2, d3, d4, d5, d6, World.cell?_setCell_same', World.cell?_setCell_other]) rfl ⟨_, by rw [HNO.out.1], by rw [HNO.out.2]; exact relNil486 _ _ _, ?_⟩
      exact below_sets488 HBV.out (by omega) _ _ _ _ _ _ _
    by_cases h1 : 999999 ≤ n
    · skip
      have HNO : Hid (rofB key n xa ea xb eb = false ∧ rofT key n xa ea xb eb = (0, ([], [], false, []), ⟨#[]⟩, ⟨#[]⟩)) := rof_no (by unfold rofG; rw [hkt, decide_eq_false (show ¬ (n ≤ 999998) by omega)]; simp)
      go_enter Tryz.func19, Tryz.ntmps19
      go_wp2_with fail
      try rw [HW.out]
      refine (keyOk_any key _ HK.out).mono ?_
      rintro e w1 ⟨rfl, hw⟩
      have hw2 := hw.symm
      clear hw
      subst hw2
      rw [hkt]
      obtain ⟨⟨d0, d1, d2, d3, d4, d5, d6⟩, fz⟩ := HZ.out W (Below.refl _ _)
      have HBV : Hid (Below w.heap.size w W) := HB0.out.trans (Below.mono (Below.refl _ _) HB0.out.size)
      have f0 := fz 0
      have f1 := fz 1
      have f2 := fz 2
      have f3 := fz 3
      have f4 := fz 4
      have f5 := fz 5
      have f6 := fz 6
      clear fz s0 s1 s2 s3
      go_wp2
      refine bodyPost_ret (v := .tuple #[.agg #[.int .i64 0, .slice none 0 0, .slice none 0 0, .bool false, .slice none 0 0, .string ⟨#[]⟩, .string ⟨#[]⟩], .bool false]) (by simp [results, Tryz.results19, go_sem, d0, d1, d2, d3, d4, d5, d6, World.cell?_setCell_same', World.cell?_setCell_other]) rfl ⟨_, by rw [HNO.out.1], by rw [HNO.out.2]; exact relNil486 _ _ _, ?_⟩
      exact below_sets488 HBV.out (by omega) _ _ _ _ _ _ _
    go_enter Tryz.func19, Tryz.ntmps19
    go_wp2_with fail
    try rw [HW.out]
    refine (keyOk_any key _ HK.out).mono ?_
    rintro e w1 ⟨rfl, hw⟩
    have hw2 := hw.symm
    clear hw
    subst hw2
    rw [hkt]
    have HN : Hid (0 ≤ n ∧ n ≤ 999998) := ⟨by omega, by omega⟩
    go_wp2_with fail
    refine (implBookOk_any _ _ _ xa ea (HA.out.1.below HB0.out) (HA.out.2.below HB0.out)).mono ?_
    rintro e w1 ⟨rfl, hb1⟩
    have X1 : Hid (Below W.heap.size W w1) := hb1
    clear hb1 s0 s1 s2 s3
    cases hba : bookT xa ea with
    | false =>
      have HNO : Hid (rofB key n xa ea xb eb = false ∧ rofT key n xa ea xb eb = (0, ([], [], false, []), ⟨#[]⟩, ⟨#[]⟩)) := rof_no (by unfold rofG; rw [hkt, hba]; simp)
      obtain ⟨⟨d0, d1, d2, d3, d4, d5, d6⟩, fz⟩ := HZ.out w1 X1.out
      have HBV : Hid (Below w.heap.size w w1) := HB0.out.trans (Below.mono X1.out HB0.out.size)
      have f0 := fz 0
      have f1 := fz 1
      have f2 := fz 2
      have f3 := fz 3
      have f4 := fz 4
      have f5 := fz 5
      have f6 := fz 6
      clear fz 
      go_wp2
      refine bodyPost_ret (v := .tuple #[.agg #[.int .i64 0, .slice none 0 0, .slice none 0 0, .bool false, .slice none 0 0, .string ⟨#[]⟩, .string ⟨#[]⟩], .bool false]) (by simp [results, Tryz.results19, go_sem, d0, d1, d2, d3, d4, d5, d6, World.cell?_setCell_same', World.cell?_setCell_other]) rfl ⟨_, by rw [HNO.out.1], by rw [HNO.out.2]; exact relNil486 _ _ _, ?_⟩
      exact below_sets488 HBV.out (by omega) _ _ _ _ _ _ _
    | true =>
      have HX1 : Hid (Below w.heap.size w w1) := HB0.out.trans (X1.out.mono HB0.out.size)
      obtain ⟨s0, s1, s2, s3⟩ := HC.out w1 X1.out
      go_wp2_with fail
      refine (implBookOk_any _ _ _ xb eb (HA'.out.1.below HX1.out) (HA'.out.2.below HX1.out)).mono ?_
      rintro e w2 ⟨rfl, hb2⟩
      have X2 : Hid (Below W.heap.size W w2) := X1.out.trans (hb2.mono X1.out.size)
      clear hb2 s0 s1 s2 s3
      cases hbb : bookT xb eb with
      | false =>
        have HNO : Hid (rofB key n xa ea xb eb = false ∧ rofT key n xa ea xb eb = (0, ([], [], false, []), ⟨#[]⟩, ⟨#[]⟩)) := rof_no (by unfold rofG; rw [hkt, hbb]; simp)
        obtain ⟨⟨d0, d1, d2, d3, d4, d5, d6⟩, fz⟩ := HZ.out w2 X2.out
        have HBV : Hid (Below w.heap.size w w2) := HB0.out.trans (Below.mono X2.out HB0.out.size)
        have f0 := fz 0
        have f1 := fz 1
        have f2 := fz 2
        have f3 := fz 3
        have f4 := fz 4
        have f5 := fz 5
        have f6 := fz 6
        clear fz 
        go_wp2
        refine bodyPost_ret (v := .tuple #[.agg #[.int .i64 0, .slice none 0 0, .slice none 0 0, .bool false, .slice none 0 0, .string ⟨#[]⟩, .string ⟨#[]⟩], .bool false]) (by simp [results, Tryz.results19, go_sem, d0, d1, d2, d3, d4, d5, d6, World.cell?_setCell_same', World.cell?_setCell_other]) rfl ⟨_, by rw [HNO.out.1], by rw [HNO.out.2]; exact relNil486 _ _ _, ?_⟩
        exact below_sets488 HBV.out (by omega) _ _ _ _ _ _ _
      | true =>
        have HB2 : Hid (Below w.heap.size w w2) := HB0.out.trans (X2.out.mono HB0.out.size)
        obtain ⟨hdof, hdok⟩ := dof_ok hba hbb
        obtain ⟨D, hD⟩ : ∃ D, dofT xa ea xb eb = D := ⟨_, rfl⟩
        have hok : deltaT D.1 D.2.1 D.2.2.1 D.2.2.2 = true := by rw [← hD, hdof]; exact hdok
        clear hdof hdok
        obtain ⟨gs, es, af, xs⟩ := D
        dsimp only at hok
        have HD : Hid (∀ V, Below w.heap.size w V → Calls Tryz.prog 53 #[.agg #[.slice a0 xa.length cap0, .slice a1 ea.length cap1], .agg #[.slice a2 xb.length cap2, .slice a3 eb.length cap3]] V fun e w' => ∃ g1 c1 g2 c2 g3 c3, e = .returned (.agg #[.slice g1 gs.length c1, .slice g2 es.length c2, .bool af, .slice g3 xs.length c3]) ∧ DeltaOwn V.heap.size w'.heap.size w' (.agg #[.slice g1 gs.length c1, .slice g2 es.length c2, .bool af, .slice g3 xs.length c3]) (gs, es, af, xs) ∧ Below V.heap.size V w') := fun V hV => by
          refine (implDeltaOf_any V _ _ _ _ xa ea xb eb (HA.out.1.below hV) (HA.out.2.below hV) (HA'.out.1.below hV) (HA'.out.2.below hV)).mono ?_
          rw [hD]
          rintro e w' ⟨v, rfl, ⟨vg, vc, vl, rfl, k1, k2, k3⟩, hb⟩
          obtain ⟨g1, c1, rfl, -⟩ := k1.at.form
          obtain ⟨g2, c2, rfl, -⟩ := k2.at.form
          obtain ⟨g3, c3, rfl, -⟩ := k3.at.form
          exact ⟨_, _, _, _, _, _, rfl, ⟨_, _, _, rfl, k1, k2, k3⟩, hb⟩
        have HOK : Hid (deltaT gs es af xs = true) := hok
        obtain ⟨hbp, hbs⟩ := bput_small hbb
        obtain ⟨BT, hBT⟩ : ∃ T, bputT xb eb = T := ⟨_, rfl⟩
        have HBT : Hid (mkT (putA xb ++ putE eb) = BT ∧ BT.size ≤ 1000000) := ⟨hbp.symm.trans hBT, by rw [← hBT, hbp]; exact hbs⟩
        have HBP : Hid (bputT xb eb = BT) := hBT
        obtain ⟨SU, hSU⟩ : ∃ T, hashT BT = T := ⟨_, rfl⟩
        have hsu : SU.size = 64 := by rw [← hSU]; exact hash_size _
        have HSU : Hid (hashT BT = SU) := hSU
        obtain ⟨RT, hRT⟩ : ∃ T, mkT (relL (n + 1, (gs, es, af, xs), SU, ⟨#[]⟩)) = T := ⟨_, rfl⟩
        have HRS : Hid (RT.size ≤ 300000) := by show _ ≤ _; rw [← hRT]; exact relL_len (by have := HN.out; omega) (by have := HN.out; omega) hok hsu
        have HRT : Hid (mkT (relL (n + 1, (gs, es, af, xs), SU, ⟨#[]⟩)) = RT) := hRT
        obtain ⟨SE, hSE⟩ : ∃ T, sealT key RT = T := ⟨_, rfl⟩
        have hse : SE.size ≤ 64 := by rw [← hSE]; exact sealT_size488 _ _
        have HSE : Hid (sealT key RT = SE) := hSE
        obtain ⟨b, hfb⟩ : ∃ b, formT (n + 1, (gs, es, af, xs), SU, SE) = b := ⟨_, rfl⟩
        have HFB : Hid (formT (n + 1, (gs, es, af, xs), SU, SE) = b) := hfb
        have HM : Hid (rofB key n xa ea xb eb = b ∧ rofT key n xa ea xb eb = if b then (n + 1, (gs, es, af, xs), SU, SE) else (0, ([], [], false, []), ⟨#[]⟩, ⟨#[]⟩)) := by
          refine rof_is ?_ ?_ hfb
          · unfold rofG
            rw [hkt, hba, hbb, decide_eq_true HN.out.1, decide_eq_true HN.out.2]
            rfl
          · unfold rofC
            rw [hD, hBT, hSU, hRT, hSE]
        have hwr : IntKind.i64.wrap (n + 1) = n + 1 := wrap488 HN.out.1 HN.out.2
        have HSZ : Hid (SU.size = 64 ∧ SE.size ≤ 64) := ⟨hsu, hse⟩
        clear hok hD hBT hbp hbs hSU hRT hSE hfb hsu hse
        obtain ⟨s0, s1, s2, s3⟩ := HC.out w2 X2.out
        have HC2 : Hid (∀ V, Below w2.heap.size w2 V → V.cell? ⟨w.heap.size, 0, none⟩ = some (.slice a0 xa.length cap0) ∧ V.cell? ⟨w.heap.size, 1, none⟩ = some (.slice a1 ea.length cap1) ∧ V.cell? ⟨w.heap.size + 1, 0, none⟩ = some (.slice a2 xb.length cap2) ∧ V.cell? ⟨w.heap.size + 1, 1, none⟩ = some (.slice a3 eb.length cap3)) := fun V hV => HC.out V (X2.out.trans (hV.mono X2.out.size))
        go_wp2_with fail
        go_cut [10] (fun u wx => ∃ (Q lo hi : Nat) (g1 : Option Addr) (c1 : Nat) (g2 : Option Addr) (c2 : Nat) (g3 : Option Addr) (c3 : Nat), u = .pointer (some ⟨Q, 0, none⟩) ∧ wx.heap[Q]? = some (.cells #[.int .i64 (n + 1), .slice g1 gs.length c1, .slice g2 es.length c2, .bool af, .slice g3 xs.length c3, .string SU, .string ⟨#[]⟩] 37 (0, 0)) ∧ DeltaOwn lo hi wx (.agg #[.slice g1 gs.length c1, .slice g2 es.length c2, .bool af, .slice g3 xs.length c3]) (gs, es, af, xs) ∧ w2.heap.size ≤ lo ∧ lo ≤ hi ∧ hi ≤ wx.heap.size ∧ (Q < lo ∨ hi ≤ Q) ∧ Below w2.heap.size w2 wx ∧ w2.heap.size ≤ Q)
        case first =>
          refine wp_region_held_drew (S := (fun w' => w'.cell? ⟨w.heap.size, 0, none⟩ = some (.slice a0 xa.length cap0) ∧ w'.cell? ⟨w.heap.size, 1, none⟩ = some (.slice a1 ea.length cap1) ∧ w'.cell? ⟨w.heap.size + 1, 0, none⟩ = some (.slice a2 xb.length cap2) ∧ w'.cell? ⟨w.heap.size + 1, 1, none⟩ = some (.slice a3 eb.length cap3))) (by kernel_rfl) ?_ (fun hHeld => ?_)
          · exact HC2.out w2 (Below.refl _ _)
          refine tk 0 33 (.int .i64 n) ?_
          simp only [Act.put, List.setIfInBounds_toArray, List.set_cons_zero, List.set_cons_succ]
          refine tk 1 34 (.int .i64 (n + 1)) ?_
          simp only [Act.put, List.setIfInBounds_toArray, List.set_cons_zero, List.set_cons_succ]
          refine tk 2 35 (.agg #[.slice a0 xa.length cap0, .slice a1 ea.length cap1]) ?_
          simp only [Act.put, List.setIfInBounds_toArray, List.set_cons_zero, List.set_cons_succ]
          refine tk 3 36 (.agg #[.slice a2 xb.length cap2, .slice a3 eb.length cap3]) ?_
          simp only [Act.put, List.setIfInBounds_toArray, List.set_cons_zero, List.set_cons_succ]
          refine tk 5 38 (.agg #[.slice a2 xb.length cap2, .slice a3 eb.length cap3]) ?_
          simp only [Act.put, List.setIfInBounds_toArray, List.set_cons_zero, List.set_cons_succ]
          obtain ⟨x0, hx⟩ : ∃ X, World.drew w2 = X := ⟨_, rfl⟩
          have Kx0 : Hid (Below w2.heap.size w2 x0) := by show Below _ _ _; rw [← hx]; exact (Below.refl _ _).drew
          have Zx0 : Hid (w2.heap.size ≤ x0.heap.size) := by show _ ≤ _; rw [← hx]; exact Nat.le_refl _
          rw [hx]
          clear hx s0 s1 s2 s3
          refine wpAnyH_ready (rs := [4, 9]) (by kernel_rfl) (by simp) ?_
          refine AllReadyH.cons rfl (fun K hK => ?_) (AllReadyH.cons rfl (fun K hK => ?_) AllReadyH.nil)
          · skip
            go_simp
            refine (HD.out _ (HB2.out.trans (Kx0.out.mono HB2.out.size))).mono ?_
            rintro e x1 ⟨g1, c1, g2, c2, g3, c3, rfl, ho, hb⟩
            have Zx1 : Hid (x0.heap.size ≤ x1.heap.size) := hb.size
            have Kx1 : Hid (Below w2.heap.size w2 x1) := Kx0.out.trans (hb.mono Kx0.out.size)
            have Ox1 : Hid (DeltaOwn x0.heap.size x1.heap.size x1 (.agg #[.slice g1 gs.length c1, .slice g2 es.length c2, .bool af, .slice g3 xs.length c3]) (gs, es, af, xs)) := ho
            clear hb
            refine hK.out _ _ ?_ (fun hHeld => ?_)
            · exact HC2.out _ Kx1.out
            clear hK K
            try simp only [Act.put, List.setIfInBounds_toArray, List.set_cons_zero, List.set_cons_succ]
            refine wpAnyH_ready (rs := [6, 9]) (by kernel_rfl) (by simp) ?_
            refine AllReadyH.cons rfl (fun K hK => ?_) (AllReadyH.cons rfl (fun K hK => ?_) AllReadyH.nil)
            · skip
              go_simp
              refine (implBookPut_any _ _ _ xb eb (HA'.out.1.below (HB2.out.trans (Kx1.out.mono HB2.out.size))) (HA'.out.2.below (HB2.out.trans (Kx1.out.mono HB2.out.size)))).mono ?_
              rintro e x2 ⟨rfl, hb⟩
              rw [HBP.out]
              have Zx2 : Hid (x1.heap.size ≤ x2.heap.size) := hb.size
              have Kx2 : Hid (Below w2.heap.size w2 x2) := Kx1.out.trans (hb.mono Kx1.out.size)
              have Ox2 : Hid (DeltaOwn x0.heap.size x1.heap.size x2 (.agg #[.slice g1 gs.length c1, .slice g2 es.length c2, .bool af, .slice g3 xs.length c3]) (gs, es, af, xs)) := Ox1.out.below hb
              clear hb
              refine hK.out _ _ ?_ (fun hHeld => ?_)
              · exact HC2.out _ Kx2.out
              clear hK K
              try simp only [Act.put, List.setIfInBounds_toArray, List.set_cons_zero, List.set_cons_succ]
              refine wpAnyH_ready (rs := [7, 9]) (by kernel_rfl) (by simp) ?_
              refine AllReadyH.cons rfl (fun K hK => ?_) (AllReadyH.cons rfl (fun K hK => ?_) AllReadyH.nil)
              · skip
                go_simp
                refine (implHashSum_any _ BT (by have := HBT.out.2; omega) (HT.out.2.1.below (HB2.out.trans (Kx2.out.mono HB2.out.size))) (HT.out.2.2.below (HB2.out.trans (Kx2.out.mono HB2.out.size)))).mono ?_
                rintro e x3 ⟨rfl, hb⟩
                rw [HSU.out]
                have Zx3 : Hid (x2.heap.size ≤ x3.heap.size) := hb.size
                have Kx3 : Hid (Below w2.heap.size w2 x3) := Kx2.out.trans (hb.mono Kx2.out.size)
                have Ox3 : Hid (DeltaOwn x0.heap.size x1.heap.size x3 (.agg #[.slice g1 gs.length c1, .slice g2 es.length c2, .bool af, .slice g3 xs.length c3]) (gs, es, af, xs)) := Ox2.out.below hb
                clear hb
                refine hK.out _ _ ?_ (fun hHeld => ?_)
                · exact HC2.out _ Kx3.out
                clear hK K
                try simp only [Act.put, List.setIfInBounds_toArray, List.set_cons_zero, List.set_cons_succ]
                refine tk 8 41 (.agg #[.int .i64 (n + 1), .slice g1 gs.length c1, .slice g2 es.length c2, .bool af, .slice g3 xs.length c3, .string SU, .string ⟨#[]⟩]) ?_
                simp only [Act.put, List.setIfInBounds_toArray, List.set_cons_zero, List.set_cons_succ]
                refine wpAnyH_ready (rs := [9]) (by kernel_rfl) (by simp) ?_
                refine AllReadyH.cons rfl (fun K hK => ?_) AllReadyH.nil
                go_simp
                have NA : Hid ((x3.alloc (.cells #[.int .i64 0, .slice none 0 0, .slice none 0 0, .bool false, .slice none 0 0, .string ⟨#[]⟩, .string ⟨#[]⟩] 37)).heap[x3.heap.size]? = some (.cells #[.int .i64 0, .slice none 0 0, .slice none 0 0, .bool false, .slice none 0 0, .string ⟨#[]⟩, .string ⟨#[]⟩] 37 (0, 0))) := heap_alloc_last _ _
                obtain ⟨x4, hx⟩ : ∃ X, x3.alloc (.cells #[.int .i64 0, .slice none 0 0, .slice none 0 0, .bool false, .slice none 0 0, .string ⟨#[]⟩, .string ⟨#[]⟩] 37) = X := ⟨_, rfl⟩
                have hb : Below x3.heap.size x3 x4 := by rw [← hx]; exact (Below.refl _ _).alloc (Nat.le_refl _) _
                have Zx4 : Hid (x3.heap.size < x4.heap.size) := by show _ < _; rw [← hx]; simp
                have Nq10_x4 : Hid (x4.heap[x3.heap.size]? = some (.cells #[.int .i64 0, .slice none 0 0, .slice none 0 0, .bool false, .slice none 0 0, .string ⟨#[]⟩, .string ⟨#[]⟩] 37 (0, 0))) := by show _ = _; rw [← hx]; exact NA.out
                have Kx4 : Hid (Below w2.heap.size w2 x4) := Kx3.out.trans (hb.mono Kx3.out.size)
                have HQq10_ : Hid (w2.heap.size ≤ x3.heap.size) := Kx3.out.size
                have Ox4 : Hid (DeltaOwn x0.heap.size x1.heap.size x4 (.agg #[.slice g1 gs.length c1, .slice g2 es.length c2, .bool af, .slice g3 xs.length c3]) (gs, es, af, xs)) := Ox3.out.below hb
                rw [hx]
                clear hx NA hb
                refine hK.out _ _ ?_ (fun hHeld => ?_)
                · exact HC2.out _ Kx4.out
                clear hK K
                try simp only [Act.put, List.setIfInBounds_toArray, List.set_cons_zero, List.set_cons_succ]
                refine wpAnyH_ready (rs := [10]) (by kernel_rfl) (by simp) ?_
                refine AllReadyH.cons rfl (fun K hK => ?_) AllReadyH.nil
                refine step_store_row rfl 37 (.tmp 10) (.tmp 41) rfl (x3.heap.size) #[.int .i64 (n + 1), .slice g1 gs.length c1, .slice g2 es.length c2, .bool af, .slice g3 xs.length c3, .string SU, .string ⟨#[]⟩] rfl rfl 37 _ Nq10_x4.out (by kernel_rfl) rfl (by simp [Value.oneCell']) rfl ?_
                obtain ⟨x5, hx⟩ : ∃ X, x4.setRow (x3.heap.size) #[.int .i64 (n + 1), .slice g1 gs.length c1, .slice g2 es.length c2, .bool af, .slice g3 xs.length c3, .string SU, .string ⟨#[]⟩] = X := ⟨_, rfl⟩
                have Kx5 : Hid (Below w2.heap.size w2 x5) := by show Below _ _ _; rw [← hx]; exact below_setRow Kx4.out HQq10_.out _
                have Zx5 : Hid (x5.heap.size = x4.heap.size) := by show _ = _; rw [← hx]; simp
                have zx0 := Zx0.out
                have zx1 := Zx1.out
                have zx2 := Zx2.out
                have zx3 := Zx3.out
                have zx4 := Zx4.out
                have Ox5 : Hid (DeltaOwn x0.heap.size x1.heap.size x5 (.agg #[.slice g1 gs.length c1, .slice g2 es.length c2, .bool af, .slice g3 xs.length c3]) (gs, es, af, xs)) := by have h9 := Ox4.out; simp only [Hid] at h9 ⊢; rw [← hx]; exact deltaOwn_setRow486 h9 (by omega) _
                have Nq10_x5 : Hid (x5.heap[x3.heap.size]? = some (.cells #[.int .i64 (n + 1), .slice g1 gs.length c1, .slice g2 es.length c2, .bool af, .slice g3 xs.length c3, .string SU, .string ⟨#[]⟩] 37 (0, 0))) := by show _ = _; rw [← hx]; exact setRow_heap _ _ _ _ _ _ Nq10_x4.out
                clear zx0
                clear zx1
                clear zx2
                clear zx3
                clear zx4
                rw [hx]
                clear hx
                refine hK.out _ _ ?_ (fun hHeld => ?_)
                · exact HC2.out _ Kx5.out
                clear hK K
                try simp only [Act.put, List.setIfInBounds_toArray, List.set_cons_zero, List.set_cons_succ]
                refine wpAnyH_done (by kernel_rfl) ?_ _
                go_wp2
                go_meet
                case rel =>
                  have zx0 := Zx0.out
                  have zx1 := Zx1.out
                  have zx2 := Zx2.out
                  have zx3 := Zx3.out
                  have zx4 := Zx4.out
                  have zx5 := Zx5.out
                  exact ⟨_, x0.heap.size, x1.heap.size, _, _, _, _, _, _, rfl, Nq10_x5.out, Ox5.out, by omega, by omega, by omega, by omega, Kx5.out, HQq10_.out⟩
              · skip
                go_simp
                have NA : Hid ((x2.alloc (.cells #[.int .i64 0, .slice none 0 0, .slice none 0 0, .bool false, .slice none 0 0, .string ⟨#[]⟩, .string ⟨#[]⟩] 37)).heap[x2.heap.size]? = some (.cells #[.int .i64 0, .slice none 0 0, .slice none 0 0, .bool false, .slice none 0 0, .string ⟨#[]⟩, .string ⟨#[]⟩] 37 (0, 0))) := heap_alloc_last _ _
                obtain ⟨x6, hx⟩ : ∃ X, x2.alloc (.cells #[.int .i64 0, .slice none 0 0, .slice none 0 0, .bool false, .slice none 0 0, .string ⟨#[]⟩, .string ⟨#[]⟩] 37) = X := ⟨_, rfl⟩
                have hb : Below x2.heap.size x2 x6 := by rw [← hx]; exact (Below.refl _ _).alloc (Nat.le_refl _) _
                have Zx6 : Hid (x2.heap.size < x6.heap.size) := by show _ < _; rw [← hx]; simp
                have Nq10_x6 : Hid (x6.heap[x2.heap.size]? = some (.cells #[.int .i64 0, .slice none 0 0, .slice none 0 0, .bool false, .slice none 0 0, .string ⟨#[]⟩, .string ⟨#[]⟩] 37 (0, 0))) := by show _ = _; rw [← hx]; exact NA.out
                have Kx6 : Hid (Below w2.heap.size w2 x6) := Kx2.out.trans (hb.mono Kx2.out.size)
                have HQq10_ : Hid (w2.heap.size ≤ x2.heap.size) := Kx2.out.size
                have Ox6 : Hid (DeltaOwn x0.heap.size x1.heap.size x6 (.agg #[.slice g1 gs.length c1, .slice g2 es.length c2, .bool af, .slice g3 xs.length c3]) (gs, es, af, xs)) := Ox2.out.below hb
                rw [hx]
                clear hx NA hb
                refine hK.out _ _ ?_ (fun hHeld => ?_)
                · exact HC2.out _ Kx6.out
                clear hK K
                try simp only [Act.put, List.setIfInBounds_toArray, List.set_cons_zero, List.set_cons_succ]
                refine wpAnyH_ready (rs := [7]) (by kernel_rfl) (by simp) ?_
                refine AllReadyH.cons rfl (fun K hK => ?_) AllReadyH.nil
                go_simp
                refine (implHashSum_any _ BT (by have := HBT.out.2; omega) (HT.out.2.1.below (HB2.out.trans (Kx6.out.mono HB2.out.size))) (HT.out.2.2.below (HB2.out.trans (Kx6.out.mono HB2.out.size)))).mono ?_
                rintro e x7 ⟨rfl, hb⟩
                rw [HSU.out]
                have Zx7 : Hid (x6.heap.size ≤ x7.heap.size) := hb.size
                have Kx7 : Hid (Below w2.heap.size w2 x7) := Kx6.out.trans (hb.mono Kx6.out.size)
                have Ox7 : Hid (DeltaOwn x0.heap.size x1.heap.size x7 (.agg #[.slice g1 gs.length c1, .slice g2 es.length c2, .bool af, .slice g3 xs.length c3]) (gs, es, af, xs)) := Ox6.out.below hb
                have Nq10_x7 : Hid (x7.heap[x2.heap.size]? = some (.cells #[.int .i64 0, .slice none 0 0, .slice none 0 0, .bool false, .slice none 0 0, .string ⟨#[]⟩, .string ⟨#[]⟩] 37 (0, 0))) := (hb.block _ (Array.getElem?_eq_some_iff.1 Nq10_x6.out).1).trans Nq10_x6.out
                clear hb
                refine hK.out _ _ ?_ (fun hHeld => ?_)
                · exact HC2.out _ Kx7.out
                clear hK K
                try simp only [Act.put, List.setIfInBounds_toArray, List.set_cons_zero, List.set_cons_succ]
                refine tk 8 41 (.agg #[.int .i64 (n + 1), .slice g1 gs.length c1, .slice g2 es.length c2, .bool af, .slice g3 xs.length c3, .string SU, .string ⟨#[]⟩]) ?_
                simp only [Act.put, List.setIfInBounds_toArray, List.set_cons_zero, List.set_cons_succ]
                refine wpAnyH_ready (rs := [10]) (by kernel_rfl) (by simp) ?_
                refine AllReadyH.cons rfl (fun K hK => ?_) AllReadyH.nil
                refine step_store_row rfl 37 (.tmp 10) (.tmp 41) rfl (x2.heap.size) #[.int .i64 (n + 1), .slice g1 gs.length c1, .slice g2 es.length c2, .bool af, .slice g3 xs.length c3, .string SU, .string ⟨#[]⟩] rfl rfl 37 _ Nq10_x7.out (by kernel_rfl) rfl (by simp [Value.oneCell']) rfl ?_
                obtain ⟨x8, hx⟩ : ∃ X, x7.setRow (x2.heap.size) #[.int .i64 (n + 1), .slice g1 gs.length c1, .slice g2 es.length c2, .bool af, .slice g3 xs.length c3, .string SU, .string ⟨#[]⟩] = X := ⟨_, rfl⟩
                have Kx8 : Hid (Below w2.heap.size w2 x8) := by show Below _ _ _; rw [← hx]; exact below_setRow Kx7.out HQq10_.out _
                have Zx8 : Hid (x8.heap.size = x7.heap.size) := by show _ = _; rw [← hx]; simp
                have zx0 := Zx0.out
                have zx1 := Zx1.out
                have zx2 := Zx2.out
                have zx6 := Zx6.out
                have zx7 := Zx7.out
                have Ox8 : Hid (DeltaOwn x0.heap.size x1.heap.size x8 (.agg #[.slice g1 gs.length c1, .slice g2 es.length c2, .bool af, .slice g3 xs.length c3]) (gs, es, af, xs)) := by have h9 := Ox7.out; simp only [Hid] at h9 ⊢; rw [← hx]; exact deltaOwn_setRow486 h9 (by omega) _
                have Nq10_x8 : Hid (x8.heap[x2.heap.size]? = some (.cells #[.int .i64 (n + 1), .slice g1 gs.length c1, .slice g2 es.length c2, .bool af, .slice g3 xs.length c3, .string SU, .string ⟨#[]⟩] 37 (0, 0))) := by show _ = _; rw [← hx]; exact setRow_heap _ _ _ _ _ _ Nq10_x7.out
                clear zx0
                clear zx1
                clear zx2
                clear zx6
                clear zx7
                rw [hx]
                clear hx
                refine hK.out _ _ ?_ (fun hHeld => ?_)
                · exact HC2.out _ Kx8.out
                clear hK K
                try simp only [Act.put, List.setIfInBounds_toArray, List.set_cons_zero, List.set_cons_succ]
                refine wpAnyH_done (by kernel_rfl) ?_ _
                go_wp2
                go_meet
                case rel =>
                  have zx0 := Zx0.out
                  have zx1 := Zx1.out
                  have zx2 := Zx2.out
                  have zx6 := Zx6.out
                  have zx7 := Zx7.out
                  have zx8 := Zx8.out
                  exact ⟨_, x0.heap.size, x1.heap.size, _, _, _, _, _, _, rfl, Nq10_x8.out, Ox8.out, by omega, by omega, by omega, by omega, Kx8.out, HQq10_.out⟩
            · skip
              go_simp
              have NA : Hid ((x1.alloc (.cells #[.int .i64 0, .slice none 0 0, .slice none 0 0, .bool false, .slice none 0 0, .string ⟨#[]⟩, .string ⟨#[]⟩] 37)).heap[x1.heap.size]? = some (.cells #[.int .i64 0, .slice none 0 0, .slice none 0 0, .bool false, .slice none 0 0, .string ⟨#[]⟩, .string ⟨#[]⟩] 37 (0, 0))) := heap_alloc_last _ _
              obtain ⟨x9, hx⟩ : ∃ X, x1.alloc (.cells #[.int .i64 0, .slice none 0 0, .slice none 0 0, .bool false, .slice none 0 0, .string ⟨#[]⟩, .string ⟨#[]⟩] 37) = X := ⟨_, rfl⟩
              have hb : Below x1.heap.size x1 x9 := by rw [← hx]; exact (Below.refl _ _).alloc (Nat.le_refl _) _
              have Zx9 : Hid (x1.heap.size < x9.heap.size) := by show _ < _; rw [← hx]; simp
              have Nq10_x9 : Hid (x9.heap[x1.heap.size]? = some (.cells #[.int .i64 0, .slice none 0 0, .slice none 0 0, .bool false, .slice none 0 0, .string ⟨#[]⟩, .string ⟨#[]⟩] 37 (0, 0))) := by show _ = _; rw [← hx]; exact NA.out
              have Kx9 : Hid (Below w2.heap.size w2 x9) := Kx1.out.trans (hb.mono Kx1.out.size)
              have HQq10_ : Hid (w2.heap.size ≤ x1.heap.size) := Kx1.out.size
              have Ox9 : Hid (DeltaOwn x0.heap.size x1.heap.size x9 (.agg #[.slice g1 gs.length c1, .slice g2 es.length c2, .bool af, .slice g3 xs.length c3]) (gs, es, af, xs)) := Ox1.out.below hb
              rw [hx]
              clear hx NA hb
              refine hK.out _ _ ?_ (fun hHeld => ?_)
              · exact HC2.out _ Kx9.out
              clear hK K
              try simp only [Act.put, List.setIfInBounds_toArray, List.set_cons_zero, List.set_cons_succ]
              refine wpAnyH_ready (rs := [6]) (by kernel_rfl) (by simp) ?_
              refine AllReadyH.cons rfl (fun K hK => ?_) AllReadyH.nil
              go_simp
              refine (implBookPut_any _ _ _ xb eb (HA'.out.1.below (HB2.out.trans (Kx9.out.mono HB2.out.size))) (HA'.out.2.below (HB2.out.trans (Kx9.out.mono HB2.out.size)))).mono ?_
              rintro e x10 ⟨rfl, hb⟩
              rw [HBP.out]
              have Zx10 : Hid (x9.heap.size ≤ x10.heap.size) := hb.size
              have Kx10 : Hid (Below w2.heap.size w2 x10) := Kx9.out.trans (hb.mono Kx9.out.size)
              have Ox10 : Hid (DeltaOwn x0.heap.size x1.heap.size x10 (.agg #[.slice g1 gs.length c1, .slice g2 es.length c2, .bool af, .slice g3 xs.length c3]) (gs, es, af, xs)) := Ox9.out.below hb
              have Nq10_x10 : Hid (x10.heap[x1.heap.size]? = some (.cells #[.int .i64 0, .slice none 0 0, .slice none 0 0, .bool false, .slice none 0 0, .string ⟨#[]⟩, .string ⟨#[]⟩] 37 (0, 0))) := (hb.block _ (Array.getElem?_eq_some_iff.1 Nq10_x9.out).1).trans Nq10_x9.out
              clear hb
              refine hK.out _ _ ?_ (fun hHeld => ?_)
              · exact HC2.out _ Kx10.out
              clear hK K
              try simp only [Act.put, List.setIfInBounds_toArray, List.set_cons_zero, List.set_cons_succ]
              refine wpAnyH_ready (rs := [7]) (by kernel_rfl) (by simp) ?_
              refine AllReadyH.cons rfl (fun K hK => ?_) AllReadyH.nil
              go_simp
              refine (implHashSum_any _ BT (by have := HBT.out.2; omega) (HT.out.2.1.below (HB2.out.trans (Kx10.out.mono HB2.out.size))) (HT.out.2.2.below (HB2.out.trans (Kx10.out.mono HB2.out.size)))).mono ?_
              rintro e x11 ⟨rfl, hb⟩
              rw [HSU.out]
              have Zx11 : Hid (x10.heap.size ≤ x11.heap.size) := hb.size
              have Kx11 : Hid (Below w2.heap.size w2 x11) := Kx10.out.trans (hb.mono Kx10.out.size)
              have Ox11 : Hid (DeltaOwn x0.heap.size x1.heap.size x11 (.agg #[.slice g1 gs.length c1, .slice g2 es.length c2, .bool af, .slice g3 xs.length c3]) (gs, es, af, xs)) := Ox10.out.below hb
              have Nq10_x11 : Hid (x11.heap[x1.heap.size]? = some (.cells #[.int .i64 0, .slice none 0 0, .slice none 0 0, .bool false, .slice none 0 0, .string ⟨#[]⟩, .string ⟨#[]⟩] 37 (0, 0))) := (hb.block _ (Array.getElem?_eq_some_iff.1 Nq10_x10.out).1).trans Nq10_x10.out
              clear hb
              refine hK.out _ _ ?_ (fun hHeld => ?_)
              · exact HC2.out _ Kx11.out
              clear hK K
              try simp only [Act.put, List.setIfInBounds_toArray, List.set_cons_zero, List.set_cons_succ]
              refine tk 8 41 (.agg #[.int .i64 (n + 1), .slice g1 gs.length c1, .slice g2 es.length c2, .bool af, .slice g3 xs.length c3, .string SU, .string ⟨#[]⟩]) ?_
              simp only [Act.put, List.setIfInBounds_toArray, List.set_cons_zero, List.set_cons_succ]
              refine wpAnyH_ready (rs := [10]) (by kernel_rfl) (by simp) ?_
              refine AllReadyH.cons rfl (fun K hK => ?_) AllReadyH.nil
              refine step_store_row rfl 37 (.tmp 10) (.tmp 41) rfl (x1.heap.size) #[.int .i64 (n + 1), .slice g1 gs.length c1, .slice g2 es.length c2, .bool af, .slice g3 xs.length c3, .string SU, .string ⟨#[]⟩] rfl rfl 37 _ Nq10_x11.out (by kernel_rfl) rfl (by simp [Value.oneCell']) rfl ?_
              obtain ⟨x12, hx⟩ : ∃ X, x11.setRow (x1.heap.size) #[.int .i64 (n + 1), .slice g1 gs.length c1, .slice g2 es.length c2, .bool af, .slice g3 xs.length c3, .string SU, .string ⟨#[]⟩] = X := ⟨_, rfl⟩
              have Kx12 : Hid (Below w2.heap.size w2 x12) := by show Below _ _ _; rw [← hx]; exact below_setRow Kx11.out HQq10_.out _
              have Zx12 : Hid (x12.heap.size = x11.heap.size) := by show _ = _; rw [← hx]; simp
              have zx0 := Zx0.out
              have zx1 := Zx1.out
              have zx9 := Zx9.out
              have zx10 := Zx10.out
              have zx11 := Zx11.out
              have Ox12 : Hid (DeltaOwn x0.heap.size x1.heap.size x12 (.agg #[.slice g1 gs.length c1, .slice g2 es.length c2, .bool af, .slice g3 xs.length c3]) (gs, es, af, xs)) := by have h9 := Ox11.out; simp only [Hid] at h9 ⊢; rw [← hx]; exact deltaOwn_setRow486 h9 (by omega) _
              have Nq10_x12 : Hid (x12.heap[x1.heap.size]? = some (.cells #[.int .i64 (n + 1), .slice g1 gs.length c1, .slice g2 es.length c2, .bool af, .slice g3 xs.length c3, .string SU, .string ⟨#[]⟩] 37 (0, 0))) := by show _ = _; rw [← hx]; exact setRow_heap _ _ _ _ _ _ Nq10_x11.out
              clear zx0
              clear zx1
              clear zx9
              clear zx10
              clear zx11
              rw [hx]
              clear hx
              refine hK.out _ _ ?_ (fun hHeld => ?_)
              · exact HC2.out _ Kx12.out
              clear hK K
              try simp only [Act.put, List.setIfInBounds_toArray, List.set_cons_zero, List.set_cons_succ]
              refine wpAnyH_done (by kernel_rfl) ?_ _
              go_wp2
              go_meet
              case rel =>
                have zx0 := Zx0.out
                have zx1 := Zx1.out
                have zx9 := Zx9.out
                have zx10 := Zx10.out
                have zx11 := Zx11.out
                have zx12 := Zx12.out
                exact ⟨_, x0.heap.size, x1.heap.size, _, _, _, _, _, _, rfl, Nq10_x12.out, Ox12.out, by omega, by omega, by omega, by omega, Kx12.out, HQq10_.out⟩
          · skip
            go_simp
            have NA : Hid ((x0.alloc (.cells #[.int .i64 0, .slice none 0 0, .slice none 0 0, .bool false, .slice none 0 0, .string ⟨#[]⟩, .string ⟨#[]⟩] 37)).heap[x0.heap.size]? = some (.cells #[.int .i64 0, .slice none 0 0, .slice none 0 0, .bool false, .slice none 0 0, .string ⟨#[]⟩, .string ⟨#[]⟩] 37 (0, 0))) := heap_alloc_last _ _
            obtain ⟨x13, hx⟩ : ∃ X, x0.alloc (.cells #[.int .i64 0, .slice none 0 0, .slice none 0 0, .bool false, .slice none 0 0, .string ⟨#[]⟩, .string ⟨#[]⟩] 37) = X := ⟨_, rfl⟩
            have hb : Below x0.heap.size x0 x13 := by rw [← hx]; exact (Below.refl _ _).alloc (Nat.le_refl _) _
            have Zx13 : Hid (x0.heap.size < x13.heap.size) := by show _ < _; rw [← hx]; simp
            have Nq10_x13 : Hid (x13.heap[x0.heap.size]? = some (.cells #[.int .i64 0, .slice none 0 0, .slice none 0 0, .bool false, .slice none 0 0, .string ⟨#[]⟩, .string ⟨#[]⟩] 37 (0, 0))) := by show _ = _; rw [← hx]; exact NA.out
            have Kx13 : Hid (Below w2.heap.size w2 x13) := Kx0.out.trans (hb.mono Kx0.out.size)
            have HQq10_ : Hid (w2.heap.size ≤ x0.heap.size) := Kx0.out.size
            rw [hx]
            clear hx NA hb
            refine hK.out _ _ ?_ (fun hHeld => ?_)
            · exact HC2.out _ Kx13.out
            clear hK K
            try simp only [Act.put, List.setIfInBounds_toArray, List.set_cons_zero, List.set_cons_succ]
            refine wpAnyH_ready (rs := [4]) (by kernel_rfl) (by simp) ?_
            refine AllReadyH.cons rfl (fun K hK => ?_) AllReadyH.nil
            go_simp
            refine (HD.out _ (HB2.out.trans (Kx13.out.mono HB2.out.size))).mono ?_
            rintro e x14 ⟨g1, c1, g2, c2, g3, c3, rfl, ho, hb⟩
            have Zx14 : Hid (x13.heap.size ≤ x14.heap.size) := hb.size
            have Kx14 : Hid (Below w2.heap.size w2 x14) := Kx13.out.trans (hb.mono Kx13.out.size)
            have Nq10_x14 : Hid (x14.heap[x0.heap.size]? = some (.cells #[.int .i64 0, .slice none 0 0, .slice none 0 0, .bool false, .slice none 0 0, .string ⟨#[]⟩, .string ⟨#[]⟩] 37 (0, 0))) := (hb.block _ (Array.getElem?_eq_some_iff.1 Nq10_x13.out).1).trans Nq10_x13.out
            have Ox14 : Hid (DeltaOwn x13.heap.size x14.heap.size x14 (.agg #[.slice g1 gs.length c1, .slice g2 es.length c2, .bool af, .slice g3 xs.length c3]) (gs, es, af, xs)) := ho
            clear hb
            refine hK.out _ _ ?_ (fun hHeld => ?_)
            · exact HC2.out _ Kx14.out
            clear hK K
            try simp only [Act.put, List.setIfInBounds_toArray, List.set_cons_zero, List.set_cons_succ]
            refine wpAnyH_ready (rs := [6]) (by kernel_rfl) (by simp) ?_
            refine AllReadyH.cons rfl (fun K hK => ?_) AllReadyH.nil
            go_simp
            refine (implBookPut_any _ _ _ xb eb (HA'.out.1.below (HB2.out.trans (Kx14.out.mono HB2.out.size))) (HA'.out.2.below (HB2.out.trans (Kx14.out.mono HB2.out.size)))).mono ?_
            rintro e x15 ⟨rfl, hb⟩
            rw [HBP.out]
            have Zx15 : Hid (x14.heap.size ≤ x15.heap.size) := hb.size
            have Kx15 : Hid (Below w2.heap.size w2 x15) := Kx14.out.trans (hb.mono Kx14.out.size)
            have Ox15 : Hid (DeltaOwn x13.heap.size x14.heap.size x15 (.agg #[.slice g1 gs.length c1, .slice g2 es.length c2, .bool af, .slice g3 xs.length c3]) (gs, es, af, xs)) := Ox14.out.below hb
            have Nq10_x15 : Hid (x15.heap[x0.heap.size]? = some (.cells #[.int .i64 0, .slice none 0 0, .slice none 0 0, .bool false, .slice none 0 0, .string ⟨#[]⟩, .string ⟨#[]⟩] 37 (0, 0))) := (hb.block _ (Array.getElem?_eq_some_iff.1 Nq10_x14.out).1).trans Nq10_x14.out
            clear hb
            refine hK.out _ _ ?_ (fun hHeld => ?_)
            · exact HC2.out _ Kx15.out
            clear hK K
            try simp only [Act.put, List.setIfInBounds_toArray, List.set_cons_zero, List.set_cons_succ]
            refine wpAnyH_ready (rs := [7]) (by kernel_rfl) (by simp) ?_
            refine AllReadyH.cons rfl (fun K hK => ?_) AllReadyH.nil
            go_simp
            refine (implHashSum_any _ BT (by have := HBT.out.2; omega) (HT.out.2.1.below (HB2.out.trans (Kx15.out.mono HB2.out.size))) (HT.out.2.2.below (HB2.out.trans (Kx15.out.mono HB2.out.size)))).mono ?_
            rintro e x16 ⟨rfl, hb⟩
            rw [HSU.out]
            have Zx16 : Hid (x15.heap.size ≤ x16.heap.size) := hb.size
            have Kx16 : Hid (Below w2.heap.size w2 x16) := Kx15.out.trans (hb.mono Kx15.out.size)
            have Ox16 : Hid (DeltaOwn x13.heap.size x14.heap.size x16 (.agg #[.slice g1 gs.length c1, .slice g2 es.length c2, .bool af, .slice g3 xs.length c3]) (gs, es, af, xs)) := Ox15.out.below hb
            have Nq10_x16 : Hid (x16.heap[x0.heap.size]? = some (.cells #[.int .i64 0, .slice none 0 0, .slice none 0 0, .bool false, .slice none 0 0, .string ⟨#[]⟩, .string ⟨#[]⟩] 37 (0, 0))) := (hb.block _ (Array.getElem?_eq_some_iff.1 Nq10_x15.out).1).trans Nq10_x15.out
            clear hb
            refine hK.out _ _ ?_ (fun hHeld => ?_)
            · exact HC2.out _ Kx16.out
            clear hK K
            try simp only [Act.put, List.setIfInBounds_toArray, List.set_cons_zero, List.set_cons_succ]
            refine tk 8 41 (.agg #[.int .i64 (n + 1), .slice g1 gs.length c1, .slice g2 es.length c2, .bool af, .slice g3 xs.length c3, .string SU, .string ⟨#[]⟩]) ?_
            simp only [Act.put, List.setIfInBounds_toArray, List.set_cons_zero, List.set_cons_succ]
            refine wpAnyH_ready (rs := [10]) (by kernel_rfl) (by simp) ?_
            refine AllReadyH.cons rfl (fun K hK => ?_) AllReadyH.nil
            refine step_store_row rfl 37 (.tmp 10) (.tmp 41) rfl (x0.heap.size) #[.int .i64 (n + 1), .slice g1 gs.length c1, .slice g2 es.length c2, .bool af, .slice g3 xs.length c3, .string SU, .string ⟨#[]⟩] rfl rfl 37 _ Nq10_x16.out (by kernel_rfl) rfl (by simp [Value.oneCell']) rfl ?_
            obtain ⟨x17, hx⟩ : ∃ X, x16.setRow (x0.heap.size) #[.int .i64 (n + 1), .slice g1 gs.length c1, .slice g2 es.length c2, .bool af, .slice g3 xs.length c3, .string SU, .string ⟨#[]⟩] = X := ⟨_, rfl⟩
            have Kx17 : Hid (Below w2.heap.size w2 x17) := by show Below _ _ _; rw [← hx]; exact below_setRow Kx16.out HQq10_.out _
            have Zx17 : Hid (x17.heap.size = x16.heap.size) := by show _ = _; rw [← hx]; simp
            have zx0 := Zx0.out
            have zx13 := Zx13.out
            have zx14 := Zx14.out
            have zx15 := Zx15.out
            have zx16 := Zx16.out
            have Ox17 : Hid (DeltaOwn x13.heap.size x14.heap.size x17 (.agg #[.slice g1 gs.length c1, .slice g2 es.length c2, .bool af, .slice g3 xs.length c3]) (gs, es, af, xs)) := by have h9 := Ox16.out; simp only [Hid] at h9 ⊢; rw [← hx]; exact deltaOwn_setRow486 h9 (by omega) _
            have Nq10_x17 : Hid (x17.heap[x0.heap.size]? = some (.cells #[.int .i64 (n + 1), .slice g1 gs.length c1, .slice g2 es.length c2, .bool af, .slice g3 xs.length c3, .string SU, .string ⟨#[]⟩] 37 (0, 0))) := by show _ = _; rw [← hx]; exact setRow_heap _ _ _ _ _ _ Nq10_x16.out
            clear zx0
            clear zx13
            clear zx14
            clear zx15
            clear zx16
            rw [hx]
            clear hx
            refine hK.out _ _ ?_ (fun hHeld => ?_)
            · exact HC2.out _ Kx17.out
            clear hK K
            try simp only [Act.put, List.setIfInBounds_toArray, List.set_cons_zero, List.set_cons_succ]
            refine wpAnyH_done (by kernel_rfl) ?_ _
            go_wp2
            go_meet
            case rel =>
              have zx0 := Zx0.out
              have zx13 := Zx13.out
              have zx14 := Zx14.out
              have zx15 := Zx15.out
              have zx16 := Zx16.out
              have zx17 := Zx17.out
              exact ⟨_, x13.heap.size, x14.heap.size, _, _, _, _, _, _, rfl, Nq10_x17.out, Ox17.out, by omega, by omega, by omega, by omega, Kx17.out, HQq10_.out⟩
        case rest =>
          obtain ⟨w3, hw3⟩ : ∃ x, x = wc := ⟨_, rfl⟩
          subst hw3
          obtain ⟨Q, lo, hi, g1, c1, g2, c2, g3, c3, hp, hr, ho, l1, l2, l3, l4, hb3, l5⟩ := hcut
          subst hp
          have X3 : Hid (Below W.heap.size W w3) := X2.out.trans (hb3.mono X2.out.size)
          have HB3 : Hid (Below w.heap.size w w3) := HB0.out.trans (X3.out.mono HB0.out.size)
          have O3 : Hid (DeltaOwn lo hi w3 (.agg #[.slice g1 gs.length c1, .slice g2 es.length c2, .bool af, .slice g3 xs.length c3]) (gs, es, af, xs)) := ho
          have HQ : Hid (∀ V, Below w3.heap.size w3 V → V.heap[Q]? = some (.cells #[.int .i64 (n + 1), .slice g1 gs.length c1, .slice g2 es.length c2, .bool af, .slice g3 xs.length c3, .string SU, .string ⟨#[]⟩] 37 (0, 0))) := fun V hV => (hV.block _ (Array.getElem?_eq_some_iff.1 hr).1).trans hr
          have hQ3 : Q < w3.heap.size := (Array.getElem?_eq_some_iff.1 hr).1
          have hwz : w.heap.size + 1 + 1 < w2.heap.size := by have := X2.out.size; omega
          have HL : Hid (w2.heap.size ≤ lo ∧ lo ≤ hi ∧ hi ≤ w3.heap.size ∧ (Q < lo ∨ hi ≤ Q) ∧ w2.heap.size ≤ Q ∧ Q < w3.heap.size ∧ w.heap.size + 1 + 1 < w2.heap.size) := ⟨l1, l2, l3, l4, l5, hQ3, hwz⟩
          have q0 : w3.cell? ⟨Q, 0, none⟩ = some (.int .i64 (n + 1)) := by rw [cell_of_row _ _ 0 _ _ _ hr]; rfl
          have q1 : w3.cell? ⟨Q, 1, none⟩ = some (.slice g1 gs.length c1) := by rw [cell_of_row _ _ 1 _ _ _ hr]; rfl
          have q2 : w3.cell? ⟨Q, 2, none⟩ = some (.slice g2 es.length c2) := by rw [cell_of_row _ _ 2 _ _ _ hr]; rfl
          have q3 : w3.cell? ⟨Q, 3, none⟩ = some (.bool af) := by rw [cell_of_row _ _ 3 _ _ _ hr]; rfl
          have q4 : w3.cell? ⟨Q, 4, none⟩ = some (.slice g3 xs.length c3) := by rw [cell_of_row _ _ 4 _ _ _ hr]; rfl
          have q5 : w3.cell? ⟨Q, 5, none⟩ = some (.string SU) := by rw [cell_of_row _ _ 5 _ _ _ hr]; rfl
          have q6 : w3.cell? ⟨Q, 6, none⟩ = some (.string ⟨#[]⟩) := by rw [cell_of_row _ _ 6 _ _ _ hr]; rfl
          clear hr ho l1 l2 l3 l4 l5 hb3 hQ3 hwz s0 s1 s2 s3
          have HPT : Hid (∀ V, Below w3.heap.size w3 V → TextsAt V (.slice g1 gs.length c1) gs ∧ EntsAt V (.slice g2 es.length c2) es ∧ AffsAt V (.slice g3 xs.length c3) xs) := fun V hV => by
            obtain ⟨_, _, _, hv, k1, k2, k3⟩ := (O3.out.below hV).at
            cases hv
            exact ⟨k1, k2, k3⟩
          have hmx : ∀ s : ByteArray, s.size ≤ 64 → s.size ≤ maxLen := fun s h => by unfold maxLen; omega
          have HSM : Hid (SU.size ≤ maxLen ∧ SE.size ≤ maxLen ∧ (⟨#[]⟩ : ByteArray).size ≤ maxLen) := ⟨hmx _ (by have := HSZ.out.1; omega), hmx _ HSZ.out.2, Nat.zero_le _⟩
          clear hmx
          go_wp2_with fail
          refine (releaseText_any _ _ (n + 1, (gs, es, af, xs), SU, ⟨#[]⟩) ⟨_, _, _, rfl, (HPT.out _ (Below.refl _ _)).1, (HPT.out _ (Below.refl _ _)).2.1, (HPT.out _ (Below.refl _ _)).2.2, HSM.out.1, HSM.out.2.2, HT.out.1.below HB3.out⟩ (by have := HN.out; show 1 ≤ n + 1; omega) (by have := HN.out; show n + 1 ≤ 999999; omega) HOK.out (by have := HSZ.out.1; show SU.size ≤ 64; omega)).mono ?_
          rintro e w4 ⟨rfl, hb4⟩
          rw [HRT.out]
          have K4 : Hid (Below w3.heap.size w3 w4) := hb4
          have HB4 : Hid (Below w.heap.size w w4) := HB3.out.trans (hb4.mono HB3.out.size)
          clear hb4 q0 q1 q2 q3 q4 q5 q6
          go_wp2_with fail
          refine (implSealOf_any _ key RT HK.out (by have := HRS.out; omega) (HT.out.2.1.below HB4.out) (HT.out.2.2.below HB4.out)).mono ?_
          rintro e w5 ⟨rfl, hb5⟩
          rw [HSE.out]
          have K5 : Hid (Below w3.heap.size w3 w5) := K4.out.trans (hb5.mono K4.out.size)
          have HB5 : Hid (Below w.heap.size w w5) := HB4.out.trans (hb5.mono HB4.out.size)
          clear hb5
          have hr5 := HQ.out w5 K5.out
          have q0 : w5.cell? ⟨Q, 0, none⟩ = some (.int .i64 (n + 1)) := by rw [cell_of_row _ _ 0 _ _ _ hr5]; rfl
          have q1 : w5.cell? ⟨Q, 1, none⟩ = some (.slice g1 gs.length c1) := by rw [cell_of_row _ _ 1 _ _ _ hr5]; rfl
          have q2 : w5.cell? ⟨Q, 2, none⟩ = some (.slice g2 es.length c2) := by rw [cell_of_row _ _ 2 _ _ _ hr5]; rfl
          have q3 : w5.cell? ⟨Q, 3, none⟩ = some (.bool af) := by rw [cell_of_row _ _ 3 _ _ _ hr5]; rfl
          have q4 : w5.cell? ⟨Q, 4, none⟩ = some (.slice g3 xs.length c3) := by rw [cell_of_row _ _ 4 _ _ _ hr5]; rfl
          have q5 : w5.cell? ⟨Q, 5, none⟩ = some (.string SU) := by rw [cell_of_row _ _ 5 _ _ _ hr5]; rfl
          have q6 : w5.cell? ⟨Q, 6, none⟩ = some (.string ⟨#[]⟩) := by rw [cell_of_row _ _ 6 _ _ _ hr5]; rfl
          have qf : w5.frozen? ⟨Q, 6, none⟩ = false := frozen_of_row _ _ 6 _ _ hr5
          obtain ⟨w6, hw6⟩ : ∃ X, w5.setCell ⟨Q, 6, none⟩ (.string SE) = X := ⟨_, rfl⟩
          have O6 : Hid (DeltaOwn lo hi w6 (.agg #[.slice g1 gs.length c1, .slice g2 es.length c2, .bool af, .slice g3 xs.length c3]) (gs, es, af, xs)) := by show DeltaOwn _ _ _ _ _; rw [← hw6]; exact deltaOwn_set486 (O3.out.below K5.out) HL.out.2.2.2.1 _
          have HB6 : Hid (Below w.heap.size w w6) := by show Below _ _ _; rw [← hw6]; exact HB5.out.setCell (p := ⟨Q, 6, none⟩) (by have := HL.out; show w.heap.size ≤ Q; omega) _
          have X6 : Hid (Below W.heap.size W w6) := by show Below _ _ _; rw [← hw6]; exact (X3.out.trans (K5.out.mono X3.out.size)).setCell (p := ⟨Q, 6, none⟩) (by have h1 := HL.out; have h2 := X2.out.size; show W.heap.size ≤ Q; omega) _
          have Z6 : Hid (w3.heap.size ≤ w6.heap.size) := by show _ ≤ _; rw [← hw6, Go.Deep.nblk_setCell]; exact K5.out.size
          have r0 : w6.cell? ⟨Q, 0, none⟩ = some (.int .i64 (n + 1)) := by rw [← hw6, World.cell?_setCell_other _ _ _ _ (by simp)]; exact q0
          have r1 : w6.cell? ⟨Q, 1, none⟩ = some (.slice g1 gs.length c1) := by rw [← hw6, World.cell?_setCell_other _ _ _ _ (by simp)]; exact q1
          have r2 : w6.cell? ⟨Q, 2, none⟩ = some (.slice g2 es.length c2) := by rw [← hw6, World.cell?_setCell_other _ _ _ _ (by simp)]; exact q2
          have r3 : w6.cell? ⟨Q, 3, none⟩ = some (.bool af) := by rw [← hw6, World.cell?_setCell_other _ _ _ _ (by simp)]; exact q3
          have r4 : w6.cell? ⟨Q, 4, none⟩ = some (.slice g3 xs.length c3) := by rw [← hw6, World.cell?_setCell_other _ _ _ _ (by simp)]; exact q4
          have r5 : w6.cell? ⟨Q, 5, none⟩ = some (.string SU) := by rw [← hw6, World.cell?_setCell_other _ _ _ _ (by simp)]; exact q5
          have r6 : w6.cell? ⟨Q, 6, none⟩ = some (.string SE) := by rw [← hw6]; exact World.cell?_setCell_same' _ _ _ (by rw [q6]; rfl)
          have HW6 : Hid (w5.setCell ⟨Q, 6, none⟩ (.string SE) = w6) := hw6
          have HP6 : Hid (TextsAt w6 (.slice g1 gs.length c1) gs ∧ EntsAt w6 (.slice g2 es.length c2) es ∧ AffsAt w6 (.slice g3 xs.length c3) xs) := by
            obtain ⟨_, _, _, hv, k1, k2, k3⟩ := O6.out.at
            cases hv
            exact ⟨k1, k2, k3⟩
          clear hw6 hr5
          go_wp2_with (rw [HW6.out])
          refine (formOk_any _ _ (n + 1, (gs, es, af, xs), SU, SE) ⟨_, _, _, rfl, HP6.out.1, HP6.out.2.1, HP6.out.2.2, HSM.out.1, HSM.out.2.1, HT.out.1.below HB6.out⟩).mono ?_
          rintro e w7 ⟨rfl, hb7⟩
          rw [HFB.out]
          have X7 : Hid (Below W.heap.size W w7) := X6.out.trans (hb7.mono X6.out.size)
          have O7 : Hid (DeltaOwn lo hi w7 (.agg #[.slice g1 gs.length c1, .slice g2 es.length c2, .bool af, .slice g3 xs.length c3]) (gs, es, af, xs)) := O6.out.below hb7
          have hl9 := HL.out
          have hz69 := Z6.out
          have t0 := (hb7.cell (p := ⟨Q, 0, none⟩) (by show Q < w6.heap.size; omega)).trans r0
          have t1 := (hb7.cell (p := ⟨Q, 1, none⟩) (by show Q < w6.heap.size; omega)).trans r1
          have t2 := (hb7.cell (p := ⟨Q, 2, none⟩) (by show Q < w6.heap.size; omega)).trans r2
          have t3 := (hb7.cell (p := ⟨Q, 3, none⟩) (by show Q < w6.heap.size; omega)).trans r3
          have t4 := (hb7.cell (p := ⟨Q, 4, none⟩) (by show Q < w6.heap.size; omega)).trans r4
          have t5 := (hb7.cell (p := ⟨Q, 5, none⟩) (by show Q < w6.heap.size; omega)).trans r5
          have t6 := (hb7.cell (p := ⟨Q, 6, none⟩) (by show Q < w6.heap.size; omega)).trans r6
          have Z7 : Hid (w3.heap.size ≤ w7.heap.size) := by have := hb7.size; show _ ≤ _; omega
          clear hb7 hl9 hz69 q0 q1 q2 q3 q4 q5 q6 r0 r1 r2 r3 r4 r5 r6 qf
          cases b with
          | false =>
            have HNO : Hid (rofB key n xa ea xb eb = false ∧ rofT key n xa ea xb eb = (0, ([], [], false, []), ⟨#[]⟩, ⟨#[]⟩)) := HM.out
            obtain ⟨⟨d0, d1, d2, d3, d4, d5, d6⟩, fz⟩ := HZ.out w7 X7.out
            have HBV : Hid (Below w.heap.size w w7) := HB0.out.trans (Below.mono X7.out HB0.out.size)
            have f0 := fz 0
            have f1 := fz 1
            have f2 := fz 2
            have f3 := fz 3
            have f4 := fz 4
            have f5 := fz 5
            have f6 := fz 6
            clear fz t0 t1 t2 t3 t4 t5 t6
            go_wp2
            refine bodyPost_ret (v := .tuple #[.agg #[.int .i64 0, .slice none 0 0, .slice none 0 0, .bool false, .slice none 0 0, .string ⟨#[]⟩, .string ⟨#[]⟩], .bool false]) (by simp [results, Tryz.results19, go_sem, d0, d1, d2, d3, d4, d5, d6, World.cell?_setCell_same', World.cell?_setCell_other]) rfl ⟨_, by rw [HNO.out.1], by rw [HNO.out.2]; exact relNil486 _ _ _, ?_⟩
            exact below_sets488 HBV.out (by omega) _ _ _ _ _ _ _
          | true =>
            have HNO : Hid (rofB key n xa ea xb eb = true ∧ rofT key n xa ea xb eb = (n + 1, (gs, es, af, xs), SU, SE)) := HM.out
            obtain ⟨⟨d0, d1, d2, d3, d4, d5, d6⟩, fz⟩ := HZ.out w7 X7.out
            have HBV : Hid (Below w.heap.size w w7) := HB0.out.trans (Below.mono X7.out HB0.out.size)
            have f0 := fz 0
            have f1 := fz 1
            have f2 := fz 2
            have f3 := fz 3
            have f4 := fz 4
            have f5 := fz 5
            have f6 := fz 6
            have hl9 := HL.out
            have hz7 := Z7.out
            clear fz
            go_wp2
            refine bodyPost_ret (v := .tuple #[.agg #[.int .i64 (n + 1), .slice g1 gs.length c1, .slice g2 es.length c2, .bool af, .slice g3 xs.length c3, .string SU, .string SE], .bool true]) (by simp [results, Tryz.results19, go_sem, d0, d1, d2, d3, d4, d5, d6, World.cell?_setCell_same', World.cell?_setCell_other]) rfl ⟨_, by rw [HNO.out.1], ?_, ?_⟩
            · rw [HNO.out.2, size_sets488]
              exact ⟨_, _, _, rfl, (relOwn_sets488 O7.out (by omega) _ _ _ _ _ _ _).weak486 (by omega) (by omega), HSM.out.1, HSM.out.2.1⟩
            exact below_sets488 HBV.out (by omega) _ _ _ _ _ _ _
set_option maxRecDepth 100000 in
set_option maxHeartbeats 8000000 in
theorem specReleaseOf_any (w : World) (key : ByteArray) (n : Int) (va ve ua ue : Value) (xa : List Aff) (ea : List (ByteArray × ByteArray)) (xb : List Aff) (eb : List (ByteArray × ByteArray)) (hk : key.size ≤ maxLen) (ha : AffsAt w va xa) (he : EntsAt w ve ea) (ha' : AffsAt w ua xb) (he' : EntsAt w ue eb) (hP : powTab w) (hR : roundTab w) (hF : firstTab w) :
    Calls Tryz.prog 18 #[.string key, .int .i64 n, .agg #[va, ve], .agg #[ua, ue]] w fun e w' => ∃ v, e = .returned (.tuple #[v, .bool (rofB key n xa ea xb eb)]) ∧ RelOwn w.heap.size w'.heap.size w' v (rofT key n xa ea xb eb) ∧ Below w.heap.size w w' := by
  obtain ⟨a0, cap0, rfl, hc0, hm0⟩ := ha.form
  obtain ⟨a1, cap1, rfl, hc1, hm1⟩ := he.form
  obtain ⟨a2, cap2, rfl, hc2, hm2⟩ := ha'.form
  obtain ⟨a3, cap3, rfl, hc3, hm3⟩ := he'.form
  have HA : Hid (AffsAt w (.slice a0 xa.length cap0) xa ∧ EntsAt w (.slice a1 ea.length cap1) ea) := ⟨ha, he⟩
  have HA' : Hid (AffsAt w (.slice a2 xb.length cap2) xb ∧ EntsAt w (.slice a3 eb.length cap3) eb) := ⟨ha', he'⟩
  have HT : Hid (powTab w ∧ roundTab w ∧ firstTab w) := ⟨hP, hR, hF⟩
  have HK : Hid (key.size ≤ maxLen) := hk
  obtain ⟨W, hW⟩ : ∃ W, ((w.alloc (.cells #[.slice a0 xa.length cap0, .slice a1 ea.length cap1] 43)).alloc (.cells #[.slice a2 xb.length cap2, .slice a3 eb.length cap3] 43)).alloc (.cells #[.int .i64 0, .slice none 0 0, .slice none 0 0, .bool false, .slice none 0 0, .string ⟨#[]⟩, .string ⟨#[]⟩] 37) = W := ⟨_, rfl⟩
  have hz2 : ((w.alloc (.cells #[.slice a0 xa.length cap0, .slice a1 ea.length cap1] 43)).alloc (.cells #[.slice a2 xb.length cap2, .slice a3 eb.length cap3] 43)).heap.size = w.heap.size + 1 + 1 := by simp
  have N0 : W.heap[w.heap.size]? = some (.cells #[.slice a0 xa.length cap0, .slice a1 ea.length cap1] 43 (0, 0)) := by
    rw [← hW, Below.heap_alloc _ _ _ (by rw [hz2]; omega)]
    exact heap_alloc2_old _ _ _
  have N1 : W.heap[w.heap.size + 1]? = some (.cells #[.slice a2 xb.length cap2, .slice a3 eb.length cap3] 43 (0, 0)) := by
    rw [← hW, Below.heap_alloc _ _ _ (by rw [hz2]; omega)]
    exact heap_alloc2_new _ _ _
  have N2 : W.heap[w.heap.size + 1 + 1]? = some (.cells #[.int .i64 0, .slice none 0 0, .slice none 0 0, .bool false, .slice none 0 0, .string ⟨#[]⟩, .string ⟨#[]⟩] 37 (0, 0)) := by
    have h9 := heap_alloc_last ((w.alloc (.cells #[.slice a0 xa.length cap0, .slice a1 ea.length cap1] 43)).alloc (.cells #[.slice a2 xb.length cap2, .slice a3 eb.length cap3] 43)) (.cells #[.int .i64 0, .slice none 0 0, .slice none 0 0, .bool false, .slice none 0 0, .string ⟨#[]⟩, .string ⟨#[]⟩] 37)
    rw [hz2, hW] at h9
    exact h9
  have HB0 : Hid (Below w.heap.size w W) := by show Below _ _ _; rw [← hW]; exact (((Below.refl _ _).alloc (Nat.le_refl _) _).alloc (by simp <;> omega) _).alloc (by simp <;> omega) _
  have hz9 : w.heap.size + 1 + 1 < W.heap.size := (Array.getElem?_eq_some_iff.1 N2).1
  have HW : Hid (((w.alloc (.cells #[.slice a0 xa.length cap0, .slice a1 ea.length cap1] 43)).alloc (.cells #[.slice a2 xb.length cap2, .slice a3 eb.length cap3] 43)).alloc (.cells #[.int .i64 0, .slice none 0 0, .slice none 0 0, .bool false, .slice none 0 0, .string ⟨#[]⟩, .string ⟨#[]⟩] 37) = W) := hW
  have HC : Hid (∀ V, Below W.heap.size W V → V.cell? ⟨w.heap.size, 0, none⟩ = some (.slice a0 xa.length cap0) ∧ V.cell? ⟨w.heap.size, 1, none⟩ = some (.slice a1 ea.length cap1) ∧ V.cell? ⟨w.heap.size + 1, 0, none⟩ = some (.slice a2 xb.length cap2) ∧ V.cell? ⟨w.heap.size + 1, 1, none⟩ = some (.slice a3 eb.length cap3)) := fun V hV => by
    have e0 : V.heap[w.heap.size]? = _ := (hV.block _ (by omega)).trans N0
    have e1 : V.heap[w.heap.size + 1]? = _ := (hV.block _ (by omega)).trans N1
    exact ⟨by rw [cell_of_row _ _ 0 _ _ _ e0]; rfl, by rw [cell_of_row _ _ 1 _ _ _ e0]; rfl, by rw [cell_of_row _ _ 0 _ _ _ e1]; rfl, by rw [cell_of_row _ _ 1 _ _ _ e1]; rfl⟩
  have HZ : Hid (∀ V, Below W.heap.size W V → (V.cell? ⟨w.heap.size + 1 + 1, 0, none⟩ = some (.int .i64 0) ∧ V.cell? ⟨w.heap.size + 1 + 1, 1, none⟩ = some (.slice none 0 0) ∧ V.cell? ⟨w.heap.size + 1 + 1, 2, none⟩ = some (.slice none 0 0) ∧ V.cell? ⟨w.heap.size + 1 + 1, 3, none⟩ = some (.bool false) ∧ V.cell? ⟨w.heap.size + 1 + 1, 4, none⟩ = some (.slice none 0 0) ∧ V.cell? ⟨w.heap.size + 1 + 1, 5, none⟩ = some (.string ⟨#[]⟩) ∧ V.cell? ⟨w.heap.size + 1 + 1, 6, none⟩ = some (.string ⟨#[]⟩)) ∧ ∀ i, V.frozen? ⟨w.heap.size + 1 + 1, i, none⟩ = false) := fun V hV => by
    have e2 : V.heap[w.heap.size + 1 + 1]? = _ := (hV.block _ hz9).trans N2
    exact ⟨⟨by rw [cell_of_row _ _ 0 _ _ _ e2]; rfl, by rw [cell_of_row _ _ 1 _ _ _ e2]; rfl, by rw [cell_of_row _ _ 2 _ _ _ e2]; rfl, by rw [cell_of_row _ _ 3 _ _ _ e2]; rfl, by rw [cell_of_row _ _ 4 _ _ _ e2]; rfl, by rw [cell_of_row _ _ 5 _ _ _ e2]; rfl, by rw [cell_of_row _ _ 6 _ _ _ e2]; rfl⟩, fun i => frozen_of_row _ _ i _ _ e2⟩
  obtain ⟨s0, s1, s2, s3⟩ := HC.out W (Below.refl _ _)
  clear ha he ha' he' hP hR hF hk hW N0 N1 N2 hz2
  cases hkt : keyT key with
  | false =>
    have HNO : Hid (rofB key n xa ea xb eb = false ∧ rofT key n xa ea xb eb = (0, ([], [], false, []), ⟨#[]⟩, ⟨#[]⟩)) := rof_no (by unfold rofG; rw [hkt]; rfl)
    go_enter Tryz.func18, Tryz.ntmps18
    go_wp2_with fail
    try rw [HW.out]
    refine (l6Key_any key _ HK.out).mono ?_
    rintro e w1 ⟨rfl, hw⟩
    have hw2 := hw.symm
    clear hw
    subst hw2
    rw [hkt]
    obtain ⟨⟨d0, d1, d2, d3, d4, d5, d6⟩, fz⟩ := HZ.out W (Below.refl _ _)
    have HBV : Hid (Below w.heap.size w W) := HB0.out.trans (Below.mono (Below.refl _ _) HB0.out.size)
    have f0 := fz 0
    have f1 := fz 1
    have f2 := fz 2
    have f3 := fz 3
    have f4 := fz 4
    have f5 := fz 5
    have f6 := fz 6
    clear fz s0 s1 s2 s3
    go_wp2
    refine bodyPost_ret (v := .tuple #[.agg #[.int .i64 0, .slice none 0 0, .slice none 0 0, .bool false, .slice none 0 0, .string ⟨#[]⟩, .string ⟨#[]⟩], .bool false]) (by simp [results, Tryz.results18, go_sem, d0, d1, d2, d3, d4, d5, d6, World.cell?_setCell_same', World.cell?_setCell_other]) rfl ⟨_, by rw [HNO.out.1], by rw [HNO.out.2]; exact relNil486 _ _ _, ?_⟩
    exact below_sets488 HBV.out (by omega) _ _ _ _ _ _ _
  | true =>
    have HKT : Hid (keyT key = true) := hkt
    cases hin : inU n 0 999998 with
    | false =>
      have HNO : Hid (rofB key n xa ea xb eb = false ∧ rofT key n xa ea xb eb = (0, ([], [], false, []), ⟨#[]⟩, ⟨#[]⟩)) := rof_no (by unfold rofG; rw [hkt]; unfold inU at hin; rw [hin]; rfl)
      go_enter Tryz.func18, Tryz.ntmps18
      go_wp2_with fail
      try rw [HW.out]
      refine (l6Key_any key _ HK.out).mono ?_
      rintro e w1 ⟨rfl, hw⟩
      have hw2 := hw.symm
      clear hw
      subst hw2
      rw [hkt]
      go_wp2_with fail
      refine (l1InU_is hin _).mono ?_
      rintro e w1 ⟨rfl, hw⟩
      have hw2 := hw.symm
      clear hw
      subst hw2
      obtain ⟨⟨d0, d1, d2, d3, d4, d5, d6⟩, fz⟩ := HZ.out W (Below.refl _ _)
      have HBV : Hid (Below w.heap.size w W) := HB0.out.trans (Below.mono (Below.refl _ _) HB0.out.size)
      have f0 := fz 0
      have f1 := fz 1
      have f2 := fz 2
      have f3 := fz 3
      have f4 := fz 4
      have f5 := fz 5
      have f6 := fz 6
      clear fz s0 s1 s2 s3
      go_wp2
      refine bodyPost_ret (v := .tuple #[.agg #[.int .i64 0, .slice none 0 0, .slice none 0 0, .bool false, .slice none 0 0, .string ⟨#[]⟩, .string ⟨#[]⟩], .bool false]) (by simp [results, Tryz.results18, go_sem, d0, d1, d2, d3, d4, d5, d6, World.cell?_setCell_same', World.cell?_setCell_other]) rfl ⟨_, by rw [HNO.out.1], by rw [HNO.out.2]; exact relNil486 _ _ _, ?_⟩
      exact below_sets488 HBV.out (by omega) _ _ _ _ _ _ _
    | true =>
      obtain ⟨h0, h1⟩ := inU_iff.1 hin
      go_enter Tryz.func18, Tryz.ntmps18
      go_wp2_with fail
      try rw [HW.out]
      refine (l6Key_any key _ HK.out).mono ?_
      rintro e w1 ⟨rfl, hw⟩
      have hw2 := hw.symm
      clear hw
      subst hw2
      rw [hkt]
      go_wp2_with fail
      refine (l1InU_is hin _).mono ?_
      rintro e w1 ⟨rfl, hw⟩
      have hw2 := hw.symm
      clear hw
      subst hw2
      have HN : Hid (0 ≤ n ∧ n ≤ 999998) := ⟨by omega, by omega⟩
      go_wp2_with fail
      refine (specBookOk_any _ _ _ xa ea (HA.out.1.below HB0.out) (HA.out.2.below HB0.out)).mono ?_
      rintro e w1 ⟨rfl, hb1⟩
      have X1 : Hid (Below W.heap.size W w1) := hb1
      clear hb1 s0 s1 s2 s3
      cases hba : bookT xa ea with
      | false =>
        have HNO : Hid (rofB key n xa ea xb eb = false ∧ rofT key n xa ea xb eb = (0, ([], [], false, []), ⟨#[]⟩, ⟨#[]⟩)) := rof_no (by unfold rofG; rw [hkt, hba]; simp)
        obtain ⟨⟨d0, d1, d2, d3, d4, d5, d6⟩, fz⟩ := HZ.out w1 X1.out
        have HBV : Hid (Below w.heap.size w w1) := HB0.out.trans (Below.mono X1.out HB0.out.size)
        have f0 := fz 0
        have f1 := fz 1
        have f2 := fz 2
        have f3 := fz 3
        have f4 := fz 4
        have f5 := fz 5
        have f6 := fz 6
        clear fz 
        go_wp2
        refine bodyPost_ret (v := .tuple #[.agg #[.int .i64 0, .slice none 0 0, .slice none 0 0, .bool false, .slice none 0 0, .string ⟨#[]⟩, .string ⟨#[]⟩], .bool false]) (by simp [results, Tryz.results18, go_sem, d0, d1, d2, d3, d4, d5, d6, World.cell?_setCell_same', World.cell?_setCell_other]) rfl ⟨_, by rw [HNO.out.1], by rw [HNO.out.2]; exact relNil486 _ _ _, ?_⟩
        exact below_sets488 HBV.out (by omega) _ _ _ _ _ _ _
      | true =>
        have HX1 : Hid (Below w.heap.size w w1) := HB0.out.trans (X1.out.mono HB0.out.size)
        obtain ⟨s0, s1, s2, s3⟩ := HC.out w1 X1.out
        go_wp2_with fail
        refine (specBookOk_any _ _ _ xb eb (HA'.out.1.below HX1.out) (HA'.out.2.below HX1.out)).mono ?_
        rintro e w2 ⟨rfl, hb2⟩
        have X2 : Hid (Below W.heap.size W w2) := X1.out.trans (hb2.mono X1.out.size)
        clear hb2 s0 s1 s2 s3
        cases hbb : bookT xb eb with
        | false =>
          have HNO : Hid (rofB key n xa ea xb eb = false ∧ rofT key n xa ea xb eb = (0, ([], [], false, []), ⟨#[]⟩, ⟨#[]⟩)) := rof_no (by unfold rofG; rw [hkt, hbb]; simp)
          obtain ⟨⟨d0, d1, d2, d3, d4, d5, d6⟩, fz⟩ := HZ.out w2 X2.out
          have HBV : Hid (Below w.heap.size w w2) := HB0.out.trans (Below.mono X2.out HB0.out.size)
          have f0 := fz 0
          have f1 := fz 1
          have f2 := fz 2
          have f3 := fz 3
          have f4 := fz 4
          have f5 := fz 5
          have f6 := fz 6
          clear fz 
          go_wp2
          refine bodyPost_ret (v := .tuple #[.agg #[.int .i64 0, .slice none 0 0, .slice none 0 0, .bool false, .slice none 0 0, .string ⟨#[]⟩, .string ⟨#[]⟩], .bool false]) (by simp [results, Tryz.results18, go_sem, d0, d1, d2, d3, d4, d5, d6, World.cell?_setCell_same', World.cell?_setCell_other]) rfl ⟨_, by rw [HNO.out.1], by rw [HNO.out.2]; exact relNil486 _ _ _, ?_⟩
          exact below_sets488 HBV.out (by omega) _ _ _ _ _ _ _
        | true =>
          have HB2 : Hid (Below w.heap.size w w2) := HB0.out.trans (X2.out.mono HB0.out.size)
          obtain ⟨hdof, hdok⟩ := dof_ok hba hbb
          obtain ⟨D, hD⟩ : ∃ D, dofT xa ea xb eb = D := ⟨_, rfl⟩
          have hok : deltaT D.1 D.2.1 D.2.2.1 D.2.2.2 = true := by rw [← hD, hdof]; exact hdok
          clear hdof hdok
          obtain ⟨gs, es, af, xs⟩ := D
          dsimp only at hok
          have HD : Hid (∀ V, Below w.heap.size w V → Calls Tryz.prog 45 #[.agg #[.slice a0 xa.length cap0, .slice a1 ea.length cap1], .agg #[.slice a2 xb.length cap2, .slice a3 eb.length cap3]] V fun e w' => ∃ g1 c1 g2 c2 g3 c3, e = .returned (.agg #[.slice g1 gs.length c1, .slice g2 es.length c2, .bool af, .slice g3 xs.length c3]) ∧ DeltaOwn V.heap.size w'.heap.size w' (.agg #[.slice g1 gs.length c1, .slice g2 es.length c2, .bool af, .slice g3 xs.length c3]) (gs, es, af, xs) ∧ Below V.heap.size V w') := fun V hV => by
            refine (specDeltaOf_own V _ _ _ _ xa ea xb eb (HA.out.1.below hV) (HA.out.2.below hV) (HA'.out.1.below hV) (HA'.out.2.below hV)).mono ?_
            rw [hD]
            rintro e w' ⟨v, rfl, ⟨vg, vc, vl, rfl, k1, k2, k3⟩, hb⟩
            obtain ⟨g1, c1, rfl, -⟩ := k1.at.form
            obtain ⟨g2, c2, rfl, -⟩ := k2.at.form
            obtain ⟨g3, c3, rfl, -⟩ := k3.at.form
            exact ⟨_, _, _, _, _, _, rfl, ⟨_, _, _, rfl, k1, k2, k3⟩, hb⟩
          have HOK : Hid (deltaT gs es af xs = true) := hok
          obtain ⟨hbp, hbs⟩ := bput_small hbb
          obtain ⟨BT, hBT⟩ : ∃ T, bputT xb eb = T := ⟨_, rfl⟩
          have HBT : Hid (mkT (putA xb ++ putE eb) = BT ∧ BT.size ≤ 1000000) := ⟨hbp.symm.trans hBT, by rw [← hBT, hbp]; exact hbs⟩
          have HBP : Hid (bputT xb eb = BT) := hBT
          obtain ⟨SU, hSU⟩ : ∃ T, hashT BT = T := ⟨_, rfl⟩
          have hsu : SU.size = 64 := by rw [← hSU]; exact hash_size _
          have HSU : Hid (hashT BT = SU) := hSU
          obtain ⟨RT, hRT⟩ : ∃ T, mkT (relL (n + 1, (gs, es, af, xs), SU, ⟨#[]⟩)) = T := ⟨_, rfl⟩
          have HRS : Hid (RT.size ≤ 300000) := by show _ ≤ _; rw [← hRT]; exact relL_len (by have := HN.out; omega) (by have := HN.out; omega) hok hsu
          have HRT : Hid (mkT (relL (n + 1, (gs, es, af, xs), SU, ⟨#[]⟩)) = RT) := hRT
          obtain ⟨SE, hSE⟩ : ∃ T, sealT key RT = T := ⟨_, rfl⟩
          have hse : SE.size ≤ 64 := by rw [← hSE]; exact sealT_size488 _ _
          have HSE : Hid (sealT key RT = SE) := hSE
          obtain ⟨b, hfb⟩ : ∃ b, formT (n + 1, (gs, es, af, xs), SU, SE) = b := ⟨_, rfl⟩
          have HFB : Hid (formT (n + 1, (gs, es, af, xs), SU, SE) = b) := hfb
          have HM : Hid (rofB key n xa ea xb eb = b ∧ rofT key n xa ea xb eb = if b then (n + 1, (gs, es, af, xs), SU, SE) else (0, ([], [], false, []), ⟨#[]⟩, ⟨#[]⟩)) := by
            refine rof_is ?_ ?_ hfb
            · unfold rofG
              rw [hkt, hba, hbb, decide_eq_true HN.out.1, decide_eq_true HN.out.2]
              rfl
            · unfold rofC
              rw [hD, hBT, hSU, hRT, hSE]
          have hwr : IntKind.i64.wrap (n + 1) = n + 1 := wrap488 HN.out.1 HN.out.2
          have HSZ : Hid (SU.size = 64 ∧ SE.size ≤ 64) := ⟨hsu, hse⟩
          clear hok hD hBT hbp hbs hSU hRT hSE hfb hsu hse
          obtain ⟨s0, s1, s2, s3⟩ := HC.out w2 X2.out
          have HC2 : Hid (∀ V, Below w2.heap.size w2 V → V.cell? ⟨w.heap.size, 0, none⟩ = some (.slice a0 xa.length cap0) ∧ V.cell? ⟨w.heap.size, 1, none⟩ = some (.slice a1 ea.length cap1) ∧ V.cell? ⟨w.heap.size + 1, 0, none⟩ = some (.slice a2 xb.length cap2) ∧ V.cell? ⟨w.heap.size + 1, 1, none⟩ = some (.slice a3 eb.length cap3)) := fun V hV => HC.out V (X2.out.trans (hV.mono X2.out.size))
          go_wp2_with fail
          go_cut [10] (fun u wx => ∃ (Q lo hi : Nat) (g1 : Option Addr) (c1 : Nat) (g2 : Option Addr) (c2 : Nat) (g3 : Option Addr) (c3 : Nat), u = .pointer (some ⟨Q, 0, none⟩) ∧ wx.heap[Q]? = some (.cells #[.int .i64 (n + 1), .slice g1 gs.length c1, .slice g2 es.length c2, .bool af, .slice g3 xs.length c3, .string SU, .string ⟨#[]⟩] 37 (0, 0)) ∧ DeltaOwn lo hi wx (.agg #[.slice g1 gs.length c1, .slice g2 es.length c2, .bool af, .slice g3 xs.length c3]) (gs, es, af, xs) ∧ w2.heap.size ≤ lo ∧ lo ≤ hi ∧ hi ≤ wx.heap.size ∧ (Q < lo ∨ hi ≤ Q) ∧ Below w2.heap.size w2 wx ∧ w2.heap.size ≤ Q)
          case first =>
            refine wp_region_held_drew (S := (fun w' => w'.cell? ⟨w.heap.size, 0, none⟩ = some (.slice a0 xa.length cap0) ∧ w'.cell? ⟨w.heap.size, 1, none⟩ = some (.slice a1 ea.length cap1) ∧ w'.cell? ⟨w.heap.size + 1, 0, none⟩ = some (.slice a2 xb.length cap2) ∧ w'.cell? ⟨w.heap.size + 1, 1, none⟩ = some (.slice a3 eb.length cap3))) (by kernel_rfl) ?_ (fun hHeld => ?_)
            · exact HC2.out w2 (Below.refl _ _)
            refine tk 0 30 (.int .i64 n) ?_
            simp only [Act.put, List.setIfInBounds_toArray, List.set_cons_zero, List.set_cons_succ]
            refine tk 1 31 (.int .i64 (n + 1)) ?_
            simp only [Act.put, List.setIfInBounds_toArray, List.set_cons_zero, List.set_cons_succ]
            refine tk 2 32 (.agg #[.slice a0 xa.length cap0, .slice a1 ea.length cap1]) ?_
            simp only [Act.put, List.setIfInBounds_toArray, List.set_cons_zero, List.set_cons_succ]
            refine tk 3 33 (.agg #[.slice a2 xb.length cap2, .slice a3 eb.length cap3]) ?_
            simp only [Act.put, List.setIfInBounds_toArray, List.set_cons_zero, List.set_cons_succ]
            refine tk 5 35 (.agg #[.slice a2 xb.length cap2, .slice a3 eb.length cap3]) ?_
            simp only [Act.put, List.setIfInBounds_toArray, List.set_cons_zero, List.set_cons_succ]
            obtain ⟨x0, hx⟩ : ∃ X, World.drew w2 = X := ⟨_, rfl⟩
            have Kx0 : Hid (Below w2.heap.size w2 x0) := by show Below _ _ _; rw [← hx]; exact (Below.refl _ _).drew
            have Zx0 : Hid (w2.heap.size ≤ x0.heap.size) := by show _ ≤ _; rw [← hx]; exact Nat.le_refl _
            rw [hx]
            clear hx s0 s1 s2 s3
            refine wpAnyH_ready (rs := [4, 9]) (by kernel_rfl) (by simp) ?_
            refine AllReadyH.cons rfl (fun K hK => ?_) (AllReadyH.cons rfl (fun K hK => ?_) AllReadyH.nil)
            · skip
              go_simp
              refine (HD.out _ (HB2.out.trans (Kx0.out.mono HB2.out.size))).mono ?_
              rintro e x1 ⟨g1, c1, g2, c2, g3, c3, rfl, ho, hb⟩
              have Zx1 : Hid (x0.heap.size ≤ x1.heap.size) := hb.size
              have Kx1 : Hid (Below w2.heap.size w2 x1) := Kx0.out.trans (hb.mono Kx0.out.size)
              have Ox1 : Hid (DeltaOwn x0.heap.size x1.heap.size x1 (.agg #[.slice g1 gs.length c1, .slice g2 es.length c2, .bool af, .slice g3 xs.length c3]) (gs, es, af, xs)) := ho
              clear hb
              refine hK.out _ _ ?_ (fun hHeld => ?_)
              · exact HC2.out _ Kx1.out
              clear hK K
              try simp only [Act.put, List.setIfInBounds_toArray, List.set_cons_zero, List.set_cons_succ]
              refine wpAnyH_ready (rs := [6, 9]) (by kernel_rfl) (by simp) ?_
              refine AllReadyH.cons rfl (fun K hK => ?_) (AllReadyH.cons rfl (fun K hK => ?_) AllReadyH.nil)
              · skip
                go_simp
                refine (l2Put_any _ _ _ xb eb (HA'.out.1.below (HB2.out.trans (Kx1.out.mono HB2.out.size))) (HA'.out.2.below (HB2.out.trans (Kx1.out.mono HB2.out.size))) hbb).mono ?_
                rintro e x2 ⟨rfl, hb⟩
                rw [HBT.out.1]
                have Zx2 : Hid (x1.heap.size ≤ x2.heap.size) := hb.size
                have Kx2 : Hid (Below w2.heap.size w2 x2) := Kx1.out.trans (hb.mono Kx1.out.size)
                have Ox2 : Hid (DeltaOwn x0.heap.size x1.heap.size x2 (.agg #[.slice g1 gs.length c1, .slice g2 es.length c2, .bool af, .slice g3 xs.length c3]) (gs, es, af, xs)) := Ox1.out.below hb
                clear hb
                refine hK.out _ _ ?_ (fun hHeld => ?_)
                · exact HC2.out _ Kx2.out
                clear hK K
                try simp only [Act.put, List.setIfInBounds_toArray, List.set_cons_zero, List.set_cons_succ]
                refine wpAnyH_ready (rs := [7, 9]) (by kernel_rfl) (by simp) ?_
                refine AllReadyH.cons rfl (fun K hK => ?_) (AllReadyH.cons rfl (fun K hK => ?_) AllReadyH.nil)
                · skip
                  go_simp
                  refine (specHashSum_any _ BT (by have := HBT.out.2; omega)).mono ?_
                  rintro e x3 ⟨rfl, hb⟩
                  rw [HSU.out]
                  have Zx3 : Hid (x2.heap.size ≤ x3.heap.size) := hb.size
                  have Kx3 : Hid (Below w2.heap.size w2 x3) := Kx2.out.trans (hb.mono Kx2.out.size)
                  have Ox3 : Hid (DeltaOwn x0.heap.size x1.heap.size x3 (.agg #[.slice g1 gs.length c1, .slice g2 es.length c2, .bool af, .slice g3 xs.length c3]) (gs, es, af, xs)) := Ox2.out.below hb
                  clear hb
                  refine hK.out _ _ ?_ (fun hHeld => ?_)
                  · exact HC2.out _ Kx3.out
                  clear hK K
                  try simp only [Act.put, List.setIfInBounds_toArray, List.set_cons_zero, List.set_cons_succ]
                  refine tk 8 38 (.agg #[.int .i64 (n + 1), .slice g1 gs.length c1, .slice g2 es.length c2, .bool af, .slice g3 xs.length c3, .string SU, .string ⟨#[]⟩]) ?_
                  simp only [Act.put, List.setIfInBounds_toArray, List.set_cons_zero, List.set_cons_succ]
                  refine wpAnyH_ready (rs := [9]) (by kernel_rfl) (by simp) ?_
                  refine AllReadyH.cons rfl (fun K hK => ?_) AllReadyH.nil
                  go_simp
                  have NA : Hid ((x3.alloc (.cells #[.int .i64 0, .slice none 0 0, .slice none 0 0, .bool false, .slice none 0 0, .string ⟨#[]⟩, .string ⟨#[]⟩] 37)).heap[x3.heap.size]? = some (.cells #[.int .i64 0, .slice none 0 0, .slice none 0 0, .bool false, .slice none 0 0, .string ⟨#[]⟩, .string ⟨#[]⟩] 37 (0, 0))) := heap_alloc_last _ _
                  obtain ⟨x4, hx⟩ : ∃ X, x3.alloc (.cells #[.int .i64 0, .slice none 0 0, .slice none 0 0, .bool false, .slice none 0 0, .string ⟨#[]⟩, .string ⟨#[]⟩] 37) = X := ⟨_, rfl⟩
                  have hb : Below x3.heap.size x3 x4 := by rw [← hx]; exact (Below.refl _ _).alloc (Nat.le_refl _) _
                  have Zx4 : Hid (x3.heap.size < x4.heap.size) := by show _ < _; rw [← hx]; simp
                  have Nq10_x4 : Hid (x4.heap[x3.heap.size]? = some (.cells #[.int .i64 0, .slice none 0 0, .slice none 0 0, .bool false, .slice none 0 0, .string ⟨#[]⟩, .string ⟨#[]⟩] 37 (0, 0))) := by show _ = _; rw [← hx]; exact NA.out
                  have Kx4 : Hid (Below w2.heap.size w2 x4) := Kx3.out.trans (hb.mono Kx3.out.size)
                  have HQq10_ : Hid (w2.heap.size ≤ x3.heap.size) := Kx3.out.size
                  have Ox4 : Hid (DeltaOwn x0.heap.size x1.heap.size x4 (.agg #[.slice g1 gs.length c1, .slice g2 es.length c2, .bool af, .slice g3 xs.length c3]) (gs, es, af, xs)) := Ox3.out.below hb
                  rw [hx]
                  clear hx NA hb
                  refine hK.out _ _ ?_ (fun hHeld => ?_)
                  · exact HC2.out _ Kx4.out
                  clear hK K
                  try simp only [Act.put, List.setIfInBounds_toArray, List.set_cons_zero, List.set_cons_succ]
                  refine wpAnyH_ready (rs := [10]) (by kernel_rfl) (by simp) ?_
                  refine AllReadyH.cons rfl (fun K hK => ?_) AllReadyH.nil
                  refine step_store_row rfl 37 (.tmp 10) (.tmp 38) rfl (x3.heap.size) #[.int .i64 (n + 1), .slice g1 gs.length c1, .slice g2 es.length c2, .bool af, .slice g3 xs.length c3, .string SU, .string ⟨#[]⟩] rfl rfl 37 _ Nq10_x4.out (by kernel_rfl) rfl (by simp [Value.oneCell']) rfl ?_
                  obtain ⟨x5, hx⟩ : ∃ X, x4.setRow (x3.heap.size) #[.int .i64 (n + 1), .slice g1 gs.length c1, .slice g2 es.length c2, .bool af, .slice g3 xs.length c3, .string SU, .string ⟨#[]⟩] = X := ⟨_, rfl⟩
                  have Kx5 : Hid (Below w2.heap.size w2 x5) := by show Below _ _ _; rw [← hx]; exact below_setRow Kx4.out HQq10_.out _
                  have Zx5 : Hid (x5.heap.size = x4.heap.size) := by show _ = _; rw [← hx]; simp
                  have zx0 := Zx0.out
                  have zx1 := Zx1.out
                  have zx2 := Zx2.out
                  have zx3 := Zx3.out
                  have zx4 := Zx4.out
                  have Ox5 : Hid (DeltaOwn x0.heap.size x1.heap.size x5 (.agg #[.slice g1 gs.length c1, .slice g2 es.length c2, .bool af, .slice g3 xs.length c3]) (gs, es, af, xs)) := by have h9 := Ox4.out; simp only [Hid] at h9 ⊢; rw [← hx]; exact deltaOwn_setRow486 h9 (by omega) _
                  have Nq10_x5 : Hid (x5.heap[x3.heap.size]? = some (.cells #[.int .i64 (n + 1), .slice g1 gs.length c1, .slice g2 es.length c2, .bool af, .slice g3 xs.length c3, .string SU, .string ⟨#[]⟩] 37 (0, 0))) := by show _ = _; rw [← hx]; exact setRow_heap _ _ _ _ _ _ Nq10_x4.out
                  clear zx0
                  clear zx1
                  clear zx2
                  clear zx3
                  clear zx4
                  rw [hx]
                  clear hx
                  refine hK.out _ _ ?_ (fun hHeld => ?_)
                  · exact HC2.out _ Kx5.out
                  clear hK K
                  try simp only [Act.put, List.setIfInBounds_toArray, List.set_cons_zero, List.set_cons_succ]
                  refine wpAnyH_done (by kernel_rfl) ?_ _
                  go_wp2
                  go_meet
                  case rel =>
                    have zx0 := Zx0.out
                    have zx1 := Zx1.out
                    have zx2 := Zx2.out
                    have zx3 := Zx3.out
                    have zx4 := Zx4.out
                    have zx5 := Zx5.out
                    exact ⟨_, x0.heap.size, x1.heap.size, _, _, _, _, _, _, rfl, Nq10_x5.out, Ox5.out, by omega, by omega, by omega, by omega, Kx5.out, HQq10_.out⟩
                · skip
                  go_simp
                  have NA : Hid ((x2.alloc (.cells #[.int .i64 0, .slice none 0 0, .slice none 0 0, .bool false, .slice none 0 0, .string ⟨#[]⟩, .string ⟨#[]⟩] 37)).heap[x2.heap.size]? = some (.cells #[.int .i64 0, .slice none 0 0, .slice none 0 0, .bool false, .slice none 0 0, .string ⟨#[]⟩, .string ⟨#[]⟩] 37 (0, 0))) := heap_alloc_last _ _
                  obtain ⟨x6, hx⟩ : ∃ X, x2.alloc (.cells #[.int .i64 0, .slice none 0 0, .slice none 0 0, .bool false, .slice none 0 0, .string ⟨#[]⟩, .string ⟨#[]⟩] 37) = X := ⟨_, rfl⟩
                  have hb : Below x2.heap.size x2 x6 := by rw [← hx]; exact (Below.refl _ _).alloc (Nat.le_refl _) _
                  have Zx6 : Hid (x2.heap.size < x6.heap.size) := by show _ < _; rw [← hx]; simp
                  have Nq10_x6 : Hid (x6.heap[x2.heap.size]? = some (.cells #[.int .i64 0, .slice none 0 0, .slice none 0 0, .bool false, .slice none 0 0, .string ⟨#[]⟩, .string ⟨#[]⟩] 37 (0, 0))) := by show _ = _; rw [← hx]; exact NA.out
                  have Kx6 : Hid (Below w2.heap.size w2 x6) := Kx2.out.trans (hb.mono Kx2.out.size)
                  have HQq10_ : Hid (w2.heap.size ≤ x2.heap.size) := Kx2.out.size
                  have Ox6 : Hid (DeltaOwn x0.heap.size x1.heap.size x6 (.agg #[.slice g1 gs.length c1, .slice g2 es.length c2, .bool af, .slice g3 xs.length c3]) (gs, es, af, xs)) := Ox2.out.below hb
                  rw [hx]
                  clear hx NA hb
                  refine hK.out _ _ ?_ (fun hHeld => ?_)
                  · exact HC2.out _ Kx6.out
                  clear hK K
                  try simp only [Act.put, List.setIfInBounds_toArray, List.set_cons_zero, List.set_cons_succ]
                  refine wpAnyH_ready (rs := [7]) (by kernel_rfl) (by simp) ?_
                  refine AllReadyH.cons rfl (fun K hK => ?_) AllReadyH.nil
                  go_simp
                  refine (specHashSum_any _ BT (by have := HBT.out.2; omega)).mono ?_
                  rintro e x7 ⟨rfl, hb⟩
                  rw [HSU.out]
                  have Zx7 : Hid (x6.heap.size ≤ x7.heap.size) := hb.size
                  have Kx7 : Hid (Below w2.heap.size w2 x7) := Kx6.out.trans (hb.mono Kx6.out.size)
                  have Ox7 : Hid (DeltaOwn x0.heap.size x1.heap.size x7 (.agg #[.slice g1 gs.length c1, .slice g2 es.length c2, .bool af, .slice g3 xs.length c3]) (gs, es, af, xs)) := Ox6.out.below hb
                  have Nq10_x7 : Hid (x7.heap[x2.heap.size]? = some (.cells #[.int .i64 0, .slice none 0 0, .slice none 0 0, .bool false, .slice none 0 0, .string ⟨#[]⟩, .string ⟨#[]⟩] 37 (0, 0))) := (hb.block _ (Array.getElem?_eq_some_iff.1 Nq10_x6.out).1).trans Nq10_x6.out
                  clear hb
                  refine hK.out _ _ ?_ (fun hHeld => ?_)
                  · exact HC2.out _ Kx7.out
                  clear hK K
                  try simp only [Act.put, List.setIfInBounds_toArray, List.set_cons_zero, List.set_cons_succ]
                  refine tk 8 38 (.agg #[.int .i64 (n + 1), .slice g1 gs.length c1, .slice g2 es.length c2, .bool af, .slice g3 xs.length c3, .string SU, .string ⟨#[]⟩]) ?_
                  simp only [Act.put, List.setIfInBounds_toArray, List.set_cons_zero, List.set_cons_succ]
                  refine wpAnyH_ready (rs := [10]) (by kernel_rfl) (by simp) ?_
                  refine AllReadyH.cons rfl (fun K hK => ?_) AllReadyH.nil
                  refine step_store_row rfl 37 (.tmp 10) (.tmp 38) rfl (x2.heap.size) #[.int .i64 (n + 1), .slice g1 gs.length c1, .slice g2 es.length c2, .bool af, .slice g3 xs.length c3, .string SU, .string ⟨#[]⟩] rfl rfl 37 _ Nq10_x7.out (by kernel_rfl) rfl (by simp [Value.oneCell']) rfl ?_
                  obtain ⟨x8, hx⟩ : ∃ X, x7.setRow (x2.heap.size) #[.int .i64 (n + 1), .slice g1 gs.length c1, .slice g2 es.length c2, .bool af, .slice g3 xs.length c3, .string SU, .string ⟨#[]⟩] = X := ⟨_, rfl⟩
                  have Kx8 : Hid (Below w2.heap.size w2 x8) := by show Below _ _ _; rw [← hx]; exact below_setRow Kx7.out HQq10_.out _
                  have Zx8 : Hid (x8.heap.size = x7.heap.size) := by show _ = _; rw [← hx]; simp
                  have zx0 := Zx0.out
                  have zx1 := Zx1.out
                  have zx2 := Zx2.out
                  have zx6 := Zx6.out
                  have zx7 := Zx7.out
                  have Ox8 : Hid (DeltaOwn x0.heap.size x1.heap.size x8 (.agg #[.slice g1 gs.length c1, .slice g2 es.length c2, .bool af, .slice g3 xs.length c3]) (gs, es, af, xs)) := by have h9 := Ox7.out; simp only [Hid] at h9 ⊢; rw [← hx]; exact deltaOwn_setRow486 h9 (by omega) _
                  have Nq10_x8 : Hid (x8.heap[x2.heap.size]? = some (.cells #[.int .i64 (n + 1), .slice g1 gs.length c1, .slice g2 es.length c2, .bool af, .slice g3 xs.length c3, .string SU, .string ⟨#[]⟩] 37 (0, 0))) := by show _ = _; rw [← hx]; exact setRow_heap _ _ _ _ _ _ Nq10_x7.out
                  clear zx0
                  clear zx1
                  clear zx2
                  clear zx6
                  clear zx7
                  rw [hx]
                  clear hx
                  refine hK.out _ _ ?_ (fun hHeld => ?_)
                  · exact HC2.out _ Kx8.out
                  clear hK K
                  try simp only [Act.put, List.setIfInBounds_toArray, List.set_cons_zero, List.set_cons_succ]
                  refine wpAnyH_done (by kernel_rfl) ?_ _
                  go_wp2
                  go_meet
                  case rel =>
                    have zx0 := Zx0.out
                    have zx1 := Zx1.out
                    have zx2 := Zx2.out
                    have zx6 := Zx6.out
                    have zx7 := Zx7.out
                    have zx8 := Zx8.out
                    exact ⟨_, x0.heap.size, x1.heap.size, _, _, _, _, _, _, rfl, Nq10_x8.out, Ox8.out, by omega, by omega, by omega, by omega, Kx8.out, HQq10_.out⟩
              · skip
                go_simp
                have NA : Hid ((x1.alloc (.cells #[.int .i64 0, .slice none 0 0, .slice none 0 0, .bool false, .slice none 0 0, .string ⟨#[]⟩, .string ⟨#[]⟩] 37)).heap[x1.heap.size]? = some (.cells #[.int .i64 0, .slice none 0 0, .slice none 0 0, .bool false, .slice none 0 0, .string ⟨#[]⟩, .string ⟨#[]⟩] 37 (0, 0))) := heap_alloc_last _ _
                obtain ⟨x9, hx⟩ : ∃ X, x1.alloc (.cells #[.int .i64 0, .slice none 0 0, .slice none 0 0, .bool false, .slice none 0 0, .string ⟨#[]⟩, .string ⟨#[]⟩] 37) = X := ⟨_, rfl⟩
                have hb : Below x1.heap.size x1 x9 := by rw [← hx]; exact (Below.refl _ _).alloc (Nat.le_refl _) _
                have Zx9 : Hid (x1.heap.size < x9.heap.size) := by show _ < _; rw [← hx]; simp
                have Nq10_x9 : Hid (x9.heap[x1.heap.size]? = some (.cells #[.int .i64 0, .slice none 0 0, .slice none 0 0, .bool false, .slice none 0 0, .string ⟨#[]⟩, .string ⟨#[]⟩] 37 (0, 0))) := by show _ = _; rw [← hx]; exact NA.out
                have Kx9 : Hid (Below w2.heap.size w2 x9) := Kx1.out.trans (hb.mono Kx1.out.size)
                have HQq10_ : Hid (w2.heap.size ≤ x1.heap.size) := Kx1.out.size
                have Ox9 : Hid (DeltaOwn x0.heap.size x1.heap.size x9 (.agg #[.slice g1 gs.length c1, .slice g2 es.length c2, .bool af, .slice g3 xs.length c3]) (gs, es, af, xs)) := Ox1.out.below hb
                rw [hx]
                clear hx NA hb
                refine hK.out _ _ ?_ (fun hHeld => ?_)
                · exact HC2.out _ Kx9.out
                clear hK K
                try simp only [Act.put, List.setIfInBounds_toArray, List.set_cons_zero, List.set_cons_succ]
                refine wpAnyH_ready (rs := [6]) (by kernel_rfl) (by simp) ?_
                refine AllReadyH.cons rfl (fun K hK => ?_) AllReadyH.nil
                go_simp
                refine (l2Put_any _ _ _ xb eb (HA'.out.1.below (HB2.out.trans (Kx9.out.mono HB2.out.size))) (HA'.out.2.below (HB2.out.trans (Kx9.out.mono HB2.out.size))) hbb).mono ?_
                rintro e x10 ⟨rfl, hb⟩
                rw [HBT.out.1]
                have Zx10 : Hid (x9.heap.size ≤ x10.heap.size) := hb.size
                have Kx10 : Hid (Below w2.heap.size w2 x10) := Kx9.out.trans (hb.mono Kx9.out.size)
                have Ox10 : Hid (DeltaOwn x0.heap.size x1.heap.size x10 (.agg #[.slice g1 gs.length c1, .slice g2 es.length c2, .bool af, .slice g3 xs.length c3]) (gs, es, af, xs)) := Ox9.out.below hb
                have Nq10_x10 : Hid (x10.heap[x1.heap.size]? = some (.cells #[.int .i64 0, .slice none 0 0, .slice none 0 0, .bool false, .slice none 0 0, .string ⟨#[]⟩, .string ⟨#[]⟩] 37 (0, 0))) := (hb.block _ (Array.getElem?_eq_some_iff.1 Nq10_x9.out).1).trans Nq10_x9.out
                clear hb
                refine hK.out _ _ ?_ (fun hHeld => ?_)
                · exact HC2.out _ Kx10.out
                clear hK K
                try simp only [Act.put, List.setIfInBounds_toArray, List.set_cons_zero, List.set_cons_succ]
                refine wpAnyH_ready (rs := [7]) (by kernel_rfl) (by simp) ?_
                refine AllReadyH.cons rfl (fun K hK => ?_) AllReadyH.nil
                go_simp
                refine (specHashSum_any _ BT (by have := HBT.out.2; omega)).mono ?_
                rintro e x11 ⟨rfl, hb⟩
                rw [HSU.out]
                have Zx11 : Hid (x10.heap.size ≤ x11.heap.size) := hb.size
                have Kx11 : Hid (Below w2.heap.size w2 x11) := Kx10.out.trans (hb.mono Kx10.out.size)
                have Ox11 : Hid (DeltaOwn x0.heap.size x1.heap.size x11 (.agg #[.slice g1 gs.length c1, .slice g2 es.length c2, .bool af, .slice g3 xs.length c3]) (gs, es, af, xs)) := Ox10.out.below hb
                have Nq10_x11 : Hid (x11.heap[x1.heap.size]? = some (.cells #[.int .i64 0, .slice none 0 0, .slice none 0 0, .bool false, .slice none 0 0, .string ⟨#[]⟩, .string ⟨#[]⟩] 37 (0, 0))) := (hb.block _ (Array.getElem?_eq_some_iff.1 Nq10_x10.out).1).trans Nq10_x10.out
                clear hb
                refine hK.out _ _ ?_ (fun hHeld => ?_)
                · exact HC2.out _ Kx11.out
                clear hK K
                try simp only [Act.put, List.setIfInBounds_toArray, List.set_cons_zero, List.set_cons_succ]
                refine tk 8 38 (.agg #[.int .i64 (n + 1), .slice g1 gs.length c1, .slice g2 es.length c2, .bool af, .slice g3 xs.length c3, .string SU, .string ⟨#[]⟩]) ?_
                simp only [Act.put, List.setIfInBounds_toArray, List.set_cons_zero, List.set_cons_succ]
                refine wpAnyH_ready (rs := [10]) (by kernel_rfl) (by simp) ?_
                refine AllReadyH.cons rfl (fun K hK => ?_) AllReadyH.nil
                refine step_store_row rfl 37 (.tmp 10) (.tmp 38) rfl (x1.heap.size) #[.int .i64 (n + 1), .slice g1 gs.length c1, .slice g2 es.length c2, .bool af, .slice g3 xs.length c3, .string SU, .string ⟨#[]⟩] rfl rfl 37 _ Nq10_x11.out (by kernel_rfl) rfl (by simp [Value.oneCell']) rfl ?_
                obtain ⟨x12, hx⟩ : ∃ X, x11.setRow (x1.heap.size) #[.int .i64 (n + 1), .slice g1 gs.length c1, .slice g2 es.length c2, .bool af, .slice g3 xs.length c3, .string SU, .string ⟨#[]⟩] = X := ⟨_, rfl⟩
                have Kx12 : Hid (Below w2.heap.size w2 x12) := by show Below _ _ _; rw [← hx]; exact below_setRow Kx11.out HQq10_.out _
                have Zx12 : Hid (x12.heap.size = x11.heap.size) := by show _ = _; rw [← hx]; simp
                have zx0 := Zx0.out
                have zx1 := Zx1.out
                have zx9 := Zx9.out
                have zx10 := Zx10.out
                have zx11 := Zx11.out
                have Ox12 : Hid (DeltaOwn x0.heap.size x1.heap.size x12 (.agg #[.slice g1 gs.length c1, .slice g2 es.length c2, .bool af, .slice g3 xs.length c3]) (gs, es, af, xs)) := by have h9 := Ox11.out; simp only [Hid] at h9 ⊢; rw [← hx]; exact deltaOwn_setRow486 h9 (by omega) _
                have Nq10_x12 : Hid (x12.heap[x1.heap.size]? = some (.cells #[.int .i64 (n + 1), .slice g1 gs.length c1, .slice g2 es.length c2, .bool af, .slice g3 xs.length c3, .string SU, .string ⟨#[]⟩] 37 (0, 0))) := by show _ = _; rw [← hx]; exact setRow_heap _ _ _ _ _ _ Nq10_x11.out
                clear zx0
                clear zx1
                clear zx9
                clear zx10
                clear zx11
                rw [hx]
                clear hx
                refine hK.out _ _ ?_ (fun hHeld => ?_)
                · exact HC2.out _ Kx12.out
                clear hK K
                try simp only [Act.put, List.setIfInBounds_toArray, List.set_cons_zero, List.set_cons_succ]
                refine wpAnyH_done (by kernel_rfl) ?_ _
                go_wp2
                go_meet
                case rel =>
                  have zx0 := Zx0.out
                  have zx1 := Zx1.out
                  have zx9 := Zx9.out
                  have zx10 := Zx10.out
                  have zx11 := Zx11.out
                  have zx12 := Zx12.out
                  exact ⟨_, x0.heap.size, x1.heap.size, _, _, _, _, _, _, rfl, Nq10_x12.out, Ox12.out, by omega, by omega, by omega, by omega, Kx12.out, HQq10_.out⟩
            · skip
              go_simp
              have NA : Hid ((x0.alloc (.cells #[.int .i64 0, .slice none 0 0, .slice none 0 0, .bool false, .slice none 0 0, .string ⟨#[]⟩, .string ⟨#[]⟩] 37)).heap[x0.heap.size]? = some (.cells #[.int .i64 0, .slice none 0 0, .slice none 0 0, .bool false, .slice none 0 0, .string ⟨#[]⟩, .string ⟨#[]⟩] 37 (0, 0))) := heap_alloc_last _ _
              obtain ⟨x13, hx⟩ : ∃ X, x0.alloc (.cells #[.int .i64 0, .slice none 0 0, .slice none 0 0, .bool false, .slice none 0 0, .string ⟨#[]⟩, .string ⟨#[]⟩] 37) = X := ⟨_, rfl⟩
              have hb : Below x0.heap.size x0 x13 := by rw [← hx]; exact (Below.refl _ _).alloc (Nat.le_refl _) _
              have Zx13 : Hid (x0.heap.size < x13.heap.size) := by show _ < _; rw [← hx]; simp
              have Nq10_x13 : Hid (x13.heap[x0.heap.size]? = some (.cells #[.int .i64 0, .slice none 0 0, .slice none 0 0, .bool false, .slice none 0 0, .string ⟨#[]⟩, .string ⟨#[]⟩] 37 (0, 0))) := by show _ = _; rw [← hx]; exact NA.out
              have Kx13 : Hid (Below w2.heap.size w2 x13) := Kx0.out.trans (hb.mono Kx0.out.size)
              have HQq10_ : Hid (w2.heap.size ≤ x0.heap.size) := Kx0.out.size
              rw [hx]
              clear hx NA hb
              refine hK.out _ _ ?_ (fun hHeld => ?_)
              · exact HC2.out _ Kx13.out
              clear hK K
              try simp only [Act.put, List.setIfInBounds_toArray, List.set_cons_zero, List.set_cons_succ]
              refine wpAnyH_ready (rs := [4]) (by kernel_rfl) (by simp) ?_
              refine AllReadyH.cons rfl (fun K hK => ?_) AllReadyH.nil
              go_simp
              refine (HD.out _ (HB2.out.trans (Kx13.out.mono HB2.out.size))).mono ?_
              rintro e x14 ⟨g1, c1, g2, c2, g3, c3, rfl, ho, hb⟩
              have Zx14 : Hid (x13.heap.size ≤ x14.heap.size) := hb.size
              have Kx14 : Hid (Below w2.heap.size w2 x14) := Kx13.out.trans (hb.mono Kx13.out.size)
              have Nq10_x14 : Hid (x14.heap[x0.heap.size]? = some (.cells #[.int .i64 0, .slice none 0 0, .slice none 0 0, .bool false, .slice none 0 0, .string ⟨#[]⟩, .string ⟨#[]⟩] 37 (0, 0))) := (hb.block _ (Array.getElem?_eq_some_iff.1 Nq10_x13.out).1).trans Nq10_x13.out
              have Ox14 : Hid (DeltaOwn x13.heap.size x14.heap.size x14 (.agg #[.slice g1 gs.length c1, .slice g2 es.length c2, .bool af, .slice g3 xs.length c3]) (gs, es, af, xs)) := ho
              clear hb
              refine hK.out _ _ ?_ (fun hHeld => ?_)
              · exact HC2.out _ Kx14.out
              clear hK K
              try simp only [Act.put, List.setIfInBounds_toArray, List.set_cons_zero, List.set_cons_succ]
              refine wpAnyH_ready (rs := [6]) (by kernel_rfl) (by simp) ?_
              refine AllReadyH.cons rfl (fun K hK => ?_) AllReadyH.nil
              go_simp
              refine (l2Put_any _ _ _ xb eb (HA'.out.1.below (HB2.out.trans (Kx14.out.mono HB2.out.size))) (HA'.out.2.below (HB2.out.trans (Kx14.out.mono HB2.out.size))) hbb).mono ?_
              rintro e x15 ⟨rfl, hb⟩
              rw [HBT.out.1]
              have Zx15 : Hid (x14.heap.size ≤ x15.heap.size) := hb.size
              have Kx15 : Hid (Below w2.heap.size w2 x15) := Kx14.out.trans (hb.mono Kx14.out.size)
              have Ox15 : Hid (DeltaOwn x13.heap.size x14.heap.size x15 (.agg #[.slice g1 gs.length c1, .slice g2 es.length c2, .bool af, .slice g3 xs.length c3]) (gs, es, af, xs)) := Ox14.out.below hb
              have Nq10_x15 : Hid (x15.heap[x0.heap.size]? = some (.cells #[.int .i64 0, .slice none 0 0, .slice none 0 0, .bool false, .slice none 0 0, .string ⟨#[]⟩, .string ⟨#[]⟩] 37 (0, 0))) := (hb.block _ (Array.getElem?_eq_some_iff.1 Nq10_x14.out).1).trans Nq10_x14.out
              clear hb
              refine hK.out _ _ ?_ (fun hHeld => ?_)
              · exact HC2.out _ Kx15.out
              clear hK K
              try simp only [Act.put, List.setIfInBounds_toArray, List.set_cons_zero, List.set_cons_succ]
              refine wpAnyH_ready (rs := [7]) (by kernel_rfl) (by simp) ?_
              refine AllReadyH.cons rfl (fun K hK => ?_) AllReadyH.nil
              go_simp
              refine (specHashSum_any _ BT (by have := HBT.out.2; omega)).mono ?_
              rintro e x16 ⟨rfl, hb⟩
              rw [HSU.out]
              have Zx16 : Hid (x15.heap.size ≤ x16.heap.size) := hb.size
              have Kx16 : Hid (Below w2.heap.size w2 x16) := Kx15.out.trans (hb.mono Kx15.out.size)
              have Ox16 : Hid (DeltaOwn x13.heap.size x14.heap.size x16 (.agg #[.slice g1 gs.length c1, .slice g2 es.length c2, .bool af, .slice g3 xs.length c3]) (gs, es, af, xs)) := Ox15.out.below hb
              have Nq10_x16 : Hid (x16.heap[x0.heap.size]? = some (.cells #[.int .i64 0, .slice none 0 0, .slice none 0 0, .bool false, .slice none 0 0, .string ⟨#[]⟩, .string ⟨#[]⟩] 37 (0, 0))) := (hb.block _ (Array.getElem?_eq_some_iff.1 Nq10_x15.out).1).trans Nq10_x15.out
              clear hb
              refine hK.out _ _ ?_ (fun hHeld => ?_)
              · exact HC2.out _ Kx16.out
              clear hK K
              try simp only [Act.put, List.setIfInBounds_toArray, List.set_cons_zero, List.set_cons_succ]
              refine tk 8 38 (.agg #[.int .i64 (n + 1), .slice g1 gs.length c1, .slice g2 es.length c2, .bool af, .slice g3 xs.length c3, .string SU, .string ⟨#[]⟩]) ?_
              simp only [Act.put, List.setIfInBounds_toArray, List.set_cons_zero, List.set_cons_succ]
              refine wpAnyH_ready (rs := [10]) (by kernel_rfl) (by simp) ?_
              refine AllReadyH.cons rfl (fun K hK => ?_) AllReadyH.nil
              refine step_store_row rfl 37 (.tmp 10) (.tmp 38) rfl (x0.heap.size) #[.int .i64 (n + 1), .slice g1 gs.length c1, .slice g2 es.length c2, .bool af, .slice g3 xs.length c3, .string SU, .string ⟨#[]⟩] rfl rfl 37 _ Nq10_x16.out (by kernel_rfl) rfl (by simp [Value.oneCell']) rfl ?_
              obtain ⟨x17, hx⟩ : ∃ X, x16.setRow (x0.heap.size) #[.int .i64 (n + 1), .slice g1 gs.length c1, .slice g2 es.length c2, .bool af, .slice g3 xs.length c3, .string SU, .string ⟨#[]⟩] = X := ⟨_, rfl⟩
              have Kx17 : Hid (Below w2.heap.size w2 x17) := by show Below _ _ _; rw [← hx]; exact below_setRow Kx16.out HQq10_.out _
              have Zx17 : Hid (x17.heap.size = x16.heap.size) := by show _ = _; rw [← hx]; simp
              have zx0 := Zx0.out
              have zx13 := Zx13.out
              have zx14 := Zx14.out
              have zx15 := Zx15.out
              have zx16 := Zx16.out
              have Ox17 : Hid (DeltaOwn x13.heap.size x14.heap.size x17 (.agg #[.slice g1 gs.length c1, .slice g2 es.length c2, .bool af, .slice g3 xs.length c3]) (gs, es, af, xs)) := by have h9 := Ox16.out; simp only [Hid] at h9 ⊢; rw [← hx]; exact deltaOwn_setRow486 h9 (by omega) _
              have Nq10_x17 : Hid (x17.heap[x0.heap.size]? = some (.cells #[.int .i64 (n + 1), .slice g1 gs.length c1, .slice g2 es.length c2, .bool af, .slice g3 xs.length c3, .string SU, .string ⟨#[]⟩] 37 (0, 0))) := by show _ = _; rw [← hx]; exact setRow_heap _ _ _ _ _ _ Nq10_x16.out
              clear zx0
              clear zx13
              clear zx14
              clear zx15
              clear zx16
              rw [hx]
              clear hx
              refine hK.out _ _ ?_ (fun hHeld => ?_)
              · exact HC2.out _ Kx17.out
              clear hK K
              try simp only [Act.put, List.setIfInBounds_toArray, List.set_cons_zero, List.set_cons_succ]
              refine wpAnyH_done (by kernel_rfl) ?_ _
              go_wp2
              go_meet
              case rel =>
                have zx0 := Zx0.out
                have zx13 := Zx13.out
                have zx14 := Zx14.out
                have zx15 := Zx15.out
                have zx16 := Zx16.out
                have zx17 := Zx17.out
                exact ⟨_, x13.heap.size, x14.heap.size, _, _, _, _, _, _, rfl, Nq10_x17.out, Ox17.out, by omega, by omega, by omega, by omega, Kx17.out, HQq10_.out⟩
          case rest =>
            obtain ⟨w3, hw3⟩ : ∃ x, x = wc := ⟨_, rfl⟩
            subst hw3
            obtain ⟨Q, lo, hi, g1, c1, g2, c2, g3, c3, hp, hr, ho, l1, l2, l3, l4, hb3, l5⟩ := hcut
            subst hp
            have X3 : Hid (Below W.heap.size W w3) := X2.out.trans (hb3.mono X2.out.size)
            have HB3 : Hid (Below w.heap.size w w3) := HB0.out.trans (X3.out.mono HB0.out.size)
            have O3 : Hid (DeltaOwn lo hi w3 (.agg #[.slice g1 gs.length c1, .slice g2 es.length c2, .bool af, .slice g3 xs.length c3]) (gs, es, af, xs)) := ho
            have HQ : Hid (∀ V, Below w3.heap.size w3 V → V.heap[Q]? = some (.cells #[.int .i64 (n + 1), .slice g1 gs.length c1, .slice g2 es.length c2, .bool af, .slice g3 xs.length c3, .string SU, .string ⟨#[]⟩] 37 (0, 0))) := fun V hV => (hV.block _ (Array.getElem?_eq_some_iff.1 hr).1).trans hr
            have hQ3 : Q < w3.heap.size := (Array.getElem?_eq_some_iff.1 hr).1
            have hwz : w.heap.size + 1 + 1 < w2.heap.size := by have := X2.out.size; omega
            have HL : Hid (w2.heap.size ≤ lo ∧ lo ≤ hi ∧ hi ≤ w3.heap.size ∧ (Q < lo ∨ hi ≤ Q) ∧ w2.heap.size ≤ Q ∧ Q < w3.heap.size ∧ w.heap.size + 1 + 1 < w2.heap.size) := ⟨l1, l2, l3, l4, l5, hQ3, hwz⟩
            have q0 : w3.cell? ⟨Q, 0, none⟩ = some (.int .i64 (n + 1)) := by rw [cell_of_row _ _ 0 _ _ _ hr]; rfl
            have q1 : w3.cell? ⟨Q, 1, none⟩ = some (.slice g1 gs.length c1) := by rw [cell_of_row _ _ 1 _ _ _ hr]; rfl
            have q2 : w3.cell? ⟨Q, 2, none⟩ = some (.slice g2 es.length c2) := by rw [cell_of_row _ _ 2 _ _ _ hr]; rfl
            have q3 : w3.cell? ⟨Q, 3, none⟩ = some (.bool af) := by rw [cell_of_row _ _ 3 _ _ _ hr]; rfl
            have q4 : w3.cell? ⟨Q, 4, none⟩ = some (.slice g3 xs.length c3) := by rw [cell_of_row _ _ 4 _ _ _ hr]; rfl
            have q5 : w3.cell? ⟨Q, 5, none⟩ = some (.string SU) := by rw [cell_of_row _ _ 5 _ _ _ hr]; rfl
            have q6 : w3.cell? ⟨Q, 6, none⟩ = some (.string ⟨#[]⟩) := by rw [cell_of_row _ _ 6 _ _ _ hr]; rfl
            clear hr ho l1 l2 l3 l4 l5 hb3 hQ3 hwz s0 s1 s2 s3
            have HPT : Hid (∀ V, Below w3.heap.size w3 V → TextsAt V (.slice g1 gs.length c1) gs ∧ EntsAt V (.slice g2 es.length c2) es ∧ AffsAt V (.slice g3 xs.length c3) xs) := fun V hV => by
              obtain ⟨_, _, _, hv, k1, k2, k3⟩ := (O3.out.below hV).at
              cases hv
              exact ⟨k1, k2, k3⟩
            have hmx : ∀ s : ByteArray, s.size ≤ 64 → s.size ≤ maxLen := fun s h => by unfold maxLen; omega
            have HSM : Hid (SU.size ≤ maxLen ∧ SE.size ≤ maxLen ∧ (⟨#[]⟩ : ByteArray).size ≤ maxLen) := ⟨hmx _ (by have := HSZ.out.1; omega), hmx _ HSZ.out.2, Nat.zero_le _⟩
            clear hmx
            go_wp2_with fail
            refine (l6Text_any _ _ (n + 1, (gs, es, af, xs), SU, ⟨#[]⟩) ⟨_, _, _, rfl, (HPT.out _ (Below.refl _ _)).1, (HPT.out _ (Below.refl _ _)).2.1, (HPT.out _ (Below.refl _ _)).2.2, HSM.out.1, HSM.out.2.2, HT.out.1.below HB3.out⟩ (by have := HN.out; show 1 ≤ n + 1; omega) (by have := HN.out; show n + 1 ≤ 999999; omega) HOK.out (by have := HSZ.out.1; show SU.size ≤ 64; omega)).mono ?_
            rintro e w4 ⟨rfl, hb4⟩
            rw [HRT.out]
            have K4 : Hid (Below w3.heap.size w3 w4) := hb4
            have HB4 : Hid (Below w.heap.size w w4) := HB3.out.trans (hb4.mono HB3.out.size)
            clear hb4 q0 q1 q2 q3 q4 q5 q6
            go_wp2_with fail
            refine (specSealOf_any _ key RT HK.out (by have := HRS.out; omega)).mono ?_
            rintro e w5 ⟨rfl, hb5⟩
            rw [HSE.out]
            have K5 : Hid (Below w3.heap.size w3 w5) := K4.out.trans (hb5.mono K4.out.size)
            have HB5 : Hid (Below w.heap.size w w5) := HB4.out.trans (hb5.mono HB4.out.size)
            clear hb5
            have hr5 := HQ.out w5 K5.out
            have q0 : w5.cell? ⟨Q, 0, none⟩ = some (.int .i64 (n + 1)) := by rw [cell_of_row _ _ 0 _ _ _ hr5]; rfl
            have q1 : w5.cell? ⟨Q, 1, none⟩ = some (.slice g1 gs.length c1) := by rw [cell_of_row _ _ 1 _ _ _ hr5]; rfl
            have q2 : w5.cell? ⟨Q, 2, none⟩ = some (.slice g2 es.length c2) := by rw [cell_of_row _ _ 2 _ _ _ hr5]; rfl
            have q3 : w5.cell? ⟨Q, 3, none⟩ = some (.bool af) := by rw [cell_of_row _ _ 3 _ _ _ hr5]; rfl
            have q4 : w5.cell? ⟨Q, 4, none⟩ = some (.slice g3 xs.length c3) := by rw [cell_of_row _ _ 4 _ _ _ hr5]; rfl
            have q5 : w5.cell? ⟨Q, 5, none⟩ = some (.string SU) := by rw [cell_of_row _ _ 5 _ _ _ hr5]; rfl
            have q6 : w5.cell? ⟨Q, 6, none⟩ = some (.string ⟨#[]⟩) := by rw [cell_of_row _ _ 6 _ _ _ hr5]; rfl
            have qf : w5.frozen? ⟨Q, 6, none⟩ = false := frozen_of_row _ _ 6 _ _ hr5
            obtain ⟨w6, hw6⟩ : ∃ X, w5.setCell ⟨Q, 6, none⟩ (.string SE) = X := ⟨_, rfl⟩
            have O6 : Hid (DeltaOwn lo hi w6 (.agg #[.slice g1 gs.length c1, .slice g2 es.length c2, .bool af, .slice g3 xs.length c3]) (gs, es, af, xs)) := by show DeltaOwn _ _ _ _ _; rw [← hw6]; exact deltaOwn_set486 (O3.out.below K5.out) HL.out.2.2.2.1 _
            have HB6 : Hid (Below w.heap.size w w6) := by show Below _ _ _; rw [← hw6]; exact HB5.out.setCell (p := ⟨Q, 6, none⟩) (by have := HL.out; show w.heap.size ≤ Q; omega) _
            have X6 : Hid (Below W.heap.size W w6) := by show Below _ _ _; rw [← hw6]; exact (X3.out.trans (K5.out.mono X3.out.size)).setCell (p := ⟨Q, 6, none⟩) (by have h1 := HL.out; have h2 := X2.out.size; show W.heap.size ≤ Q; omega) _
            have Z6 : Hid (w3.heap.size ≤ w6.heap.size) := by show _ ≤ _; rw [← hw6, Go.Deep.nblk_setCell]; exact K5.out.size
            have r0 : w6.cell? ⟨Q, 0, none⟩ = some (.int .i64 (n + 1)) := by rw [← hw6, World.cell?_setCell_other _ _ _ _ (by simp)]; exact q0
            have r1 : w6.cell? ⟨Q, 1, none⟩ = some (.slice g1 gs.length c1) := by rw [← hw6, World.cell?_setCell_other _ _ _ _ (by simp)]; exact q1
            have r2 : w6.cell? ⟨Q, 2, none⟩ = some (.slice g2 es.length c2) := by rw [← hw6, World.cell?_setCell_other _ _ _ _ (by simp)]; exact q2
            have r3 : w6.cell? ⟨Q, 3, none⟩ = some (.bool af) := by rw [← hw6, World.cell?_setCell_other _ _ _ _ (by simp)]; exact q3
            have r4 : w6.cell? ⟨Q, 4, none⟩ = some (.slice g3 xs.length c3) := by rw [← hw6, World.cell?_setCell_other _ _ _ _ (by simp)]; exact q4
            have r5 : w6.cell? ⟨Q, 5, none⟩ = some (.string SU) := by rw [← hw6, World.cell?_setCell_other _ _ _ _ (by simp)]; exact q5
            have r6 : w6.cell? ⟨Q, 6, none⟩ = some (.string SE) := by rw [← hw6]; exact World.cell?_setCell_same' _ _ _ (by rw [q6]; rfl)
            have HW6 : Hid (w5.setCell ⟨Q, 6, none⟩ (.string SE) = w6) := hw6
            have HP6 : Hid (TextsAt w6 (.slice g1 gs.length c1) gs ∧ EntsAt w6 (.slice g2 es.length c2) es ∧ AffsAt w6 (.slice g3 xs.length c3) xs) := by
              obtain ⟨_, _, _, hv, k1, k2, k3⟩ := O6.out.at
              cases hv
              exact ⟨k1, k2, k3⟩
            clear hw6 hr5
            go_wp2_with (rw [HW6.out])
            refine (l6Form_any _ _ (n + 1, (gs, es, af, xs), SU, SE) ⟨_, _, _, rfl, HP6.out.1, HP6.out.2.1, HP6.out.2.2, HSM.out.1, HSM.out.2.1, HT.out.1.below HB6.out⟩).mono ?_
            rintro e w7 ⟨rfl, hb7⟩
            rw [HFB.out]
            have X7 : Hid (Below W.heap.size W w7) := X6.out.trans (hb7.mono X6.out.size)
            have O7 : Hid (DeltaOwn lo hi w7 (.agg #[.slice g1 gs.length c1, .slice g2 es.length c2, .bool af, .slice g3 xs.length c3]) (gs, es, af, xs)) := O6.out.below hb7
            have hl9 := HL.out
            have hz69 := Z6.out
            have t0 := (hb7.cell (p := ⟨Q, 0, none⟩) (by show Q < w6.heap.size; omega)).trans r0
            have t1 := (hb7.cell (p := ⟨Q, 1, none⟩) (by show Q < w6.heap.size; omega)).trans r1
            have t2 := (hb7.cell (p := ⟨Q, 2, none⟩) (by show Q < w6.heap.size; omega)).trans r2
            have t3 := (hb7.cell (p := ⟨Q, 3, none⟩) (by show Q < w6.heap.size; omega)).trans r3
            have t4 := (hb7.cell (p := ⟨Q, 4, none⟩) (by show Q < w6.heap.size; omega)).trans r4
            have t5 := (hb7.cell (p := ⟨Q, 5, none⟩) (by show Q < w6.heap.size; omega)).trans r5
            have t6 := (hb7.cell (p := ⟨Q, 6, none⟩) (by show Q < w6.heap.size; omega)).trans r6
            have Z7 : Hid (w3.heap.size ≤ w7.heap.size) := by have := hb7.size; show _ ≤ _; omega
            clear hb7 hl9 hz69 q0 q1 q2 q3 q4 q5 q6 r0 r1 r2 r3 r4 r5 r6 qf
            cases b with
            | false =>
              have HNO : Hid (rofB key n xa ea xb eb = false ∧ rofT key n xa ea xb eb = (0, ([], [], false, []), ⟨#[]⟩, ⟨#[]⟩)) := HM.out
              obtain ⟨⟨d0, d1, d2, d3, d4, d5, d6⟩, fz⟩ := HZ.out w7 X7.out
              have HBV : Hid (Below w.heap.size w w7) := HB0.out.trans (Below.mono X7.out HB0.out.size)
              have f0 := fz 0
              have f1 := fz 1
              have f2 := fz 2
              have f3 := fz 3
              have f4 := fz 4
              have f5 := fz 5
              have f6 := fz 6
              clear fz t0 t1 t2 t3 t4 t5 t6
              go_wp2
              refine bodyPost_ret (v := .tuple #[.agg #[.int .i64 0, .slice none 0 0, .slice none 0 0, .bool false, .slice none 0 0, .string ⟨#[]⟩, .string ⟨#[]⟩], .bool false]) (by simp [results, Tryz.results18, go_sem, d0, d1, d2, d3, d4, d5, d6, World.cell?_setCell_same', World.cell?_setCell_other]) rfl ⟨_, by rw [HNO.out.1], by rw [HNO.out.2]; exact relNil486 _ _ _, ?_⟩
              exact below_sets488 HBV.out (by omega) _ _ _ _ _ _ _
            | true =>
              have HNO : Hid (rofB key n xa ea xb eb = true ∧ rofT key n xa ea xb eb = (n + 1, (gs, es, af, xs), SU, SE)) := HM.out
              obtain ⟨⟨d0, d1, d2, d3, d4, d5, d6⟩, fz⟩ := HZ.out w7 X7.out
              have HBV : Hid (Below w.heap.size w w7) := HB0.out.trans (Below.mono X7.out HB0.out.size)
              have f0 := fz 0
              have f1 := fz 1
              have f2 := fz 2
              have f3 := fz 3
              have f4 := fz 4
              have f5 := fz 5
              have f6 := fz 6
              have hl9 := HL.out
              have hz7 := Z7.out
              clear fz
              go_wp2
              refine bodyPost_ret (v := .tuple #[.agg #[.int .i64 (n + 1), .slice g1 gs.length c1, .slice g2 es.length c2, .bool af, .slice g3 xs.length c3, .string SU, .string SE], .bool true]) (by simp [results, Tryz.results18, go_sem, d0, d1, d2, d3, d4, d5, d6, World.cell?_setCell_same', World.cell?_setCell_other]) rfl ⟨_, by rw [HNO.out.1], ?_, ?_⟩
              · rw [HNO.out.2, size_sets488]
                exact ⟨_, _, _, rfl, (relOwn_sets488 O7.out (by omega) _ _ _ _ _ _ _).weak486 (by omega) (by omega), HSM.out.1, HSM.out.2.1⟩
              exact below_sets488 HBV.out (by omega) _ _ _ _ _ _ _
end Go.Proofs.YtkepmjebnkcbgaaGreatDoor
/-
  What ReleaseOf answers is small.
-/
namespace Go.Proofs.YtkepmjebnkcbgaaGreatDoor
open Go.RowKit
set_option linter.unusedVariables false
theorem rof_small (key : ByteArray) (n : Int) (xa : List Aff) (ea : List (ByteArray × ByteArray)) (xb : List Aff) (eb : List (ByteArray × ByteArray)) : ReleaseSm (rofT key n xa ea xb eb) := by
  unfold rofT
  split
  · exact dofT_small xa ea xb eb
  · exact ⟨Nat.zero_le _, Nat.zero_le _, Nat.zero_le _⟩
end Go.Proofs.YtkepmjebnkcbgaaGreatDoor
/-
  A release by a ring's key: RingRelease of both.
-/
namespace Go.Proofs.YtkepmjebnkcbgaaGreatDoor
open Go.RowKit
set_option linter.unusedVariables false
theorem keyOf_mem : ∀ (ks : List ByteArray) (fs : List Int) (n : Int) (c : ByteArray), keyOf ks fs n c = c ∨ keyOf ks fs n c ∈ ks
  | [], _, _, _ => .inl (by unfold keyOf; rfl)
  | _ :: _, [], _, _ => .inl (by unfold keyOf; rfl)
  | k :: ks, f :: fs, n, c => by
    unfold keyOf
    rcases keyOf_mem ks fs n (if f ≤ n then k else c) with h | h
    · rw [h]
      split
      · exact .inr List.mem_cons_self
      · exact .inl rfl
    · exact .inr (List.mem_cons_of_mem _ h)
theorem rk_not490 {x : RingM} {n : Int} (h : ringOk x = false) : rkT x n = ⟨#[]⟩ := by unfold rkT; rw [h]; rfl
theorem rk_size {x : RingM} {n : Int} {B : Nat} (h : ∀ k ∈ x.1, k.size ≤ B) : (rkT x n).size ≤ B := by
  unfold rkT
  split
  · rcases keyOf_mem x.1 x.2 n ⟨#[]⟩ with e | e
    · rw [e]; exact Nat.zero_le _
    · exact h _ e
  · exact Nat.zero_le _
theorem ring_fit {w : World} {v : Value} {x : RingM} (h : RingAt w v x) : ∀ k ∈ x.1, k.size ≤ maxLen := by
  obtain ⟨va, vn, -, h1, -⟩ := h
  intro k hk
  obtain ⟨i, hi, hx⟩ := List.getElem_of_mem hk
  exact h1.fit i k (by rw [List.getElem?_eq_getElem hi, hx])
noncomputable def rrT (x : RingM) (n : Int) (xa : List Aff) (ea : List (ByteArray × ByteArray)) (xb : List Aff) (eb : List (ByteArray × ByteArray)) : ReleaseM := rofT (rkT x (IntKind.i64.wrap (n + 1))) n xa ea xb eb
noncomputable def rrB (x : RingM) (n : Int) (xa : List Aff) (ea : List (ByteArray × ByteArray)) (xb : List Aff) (eb : List (ByteArray × ByteArray)) : Bool := rofB (rkT x (IntKind.i64.wrap (n + 1))) n xa ea xb eb
theorem rr_no {x : RingM} {n : Int} {xa : List Aff} {ea : List (ByteArray × ByteArray)} {xb : List Aff} {eb : List (ByteArray × ByteArray)} (h : ringOk x = false) : rrB x n xa ea xb eb = false ∧ rrT x n xa ea xb eb = (0, ([], [], false, []), ⟨#[]⟩, ⟨#[]⟩) := by
  unfold rrB rrT
  rw [rk_not490 h]
  exact rof_no (by unfold rofG; rfl)
theorem key490 {x : RingM} {m : Int} (h : ringOk x = true) : keyOf x.1 x.2 m ⟨#[]⟩ = rkT x m := by unfold rkT; rw [h]; rfl
set_option maxRecDepth 100000 in
set_option maxHeartbeats 8000000 in
theorem implRingRelease_any (w : World) (v : Value) (x : RingM) (n : Int) (va ve ua ue : Value) (xa : List Aff) (ea : List (ByteArray × ByteArray)) (xb : List Aff) (eb : List (ByteArray × ByteArray)) (h : RingAt w v x) (ha : AffsAt w va xa) (he : EntsAt w ve ea) (ha' : AffsAt w ua xb) (he' : EntsAt w ue eb) (hP : powTab w) (hR : roundTab w) (hF : firstTab w) :
    Calls Tryz.prog 10 #[v, .int .i64 n, .agg #[va, ve], .agg #[ua, ue]] w fun e w' => ∃ v', e = .returned (.tuple #[v', .bool (rrB x n xa ea xb eb)]) ∧ RelOwn w.heap.size w'.heap.size w' v' (rrT x n xa ea xb eb) ∧ Below w.heap.size w w' := by
  have hfit := ring_fit h
  obtain ⟨a, l, cap, a', l', cap', rfl⟩ := h.form2
  obtain ⟨a0, cap0, rfl, hc0, hm0⟩ := ha.form
  obtain ⟨a1, cap1, rfl, hc1, hm1⟩ := he.form
  obtain ⟨a2, cap2, rfl, hc2, hm2⟩ := ha'.form
  obtain ⟨a3, cap3, rfl, hc3, hm3⟩ := he'.form
  have HR : Hid (RingAt w (.agg #[.slice a l cap, .slice a' l' cap']) x) := h
  have HA : Hid (AffsAt w (.slice a0 xa.length cap0) xa ∧ EntsAt w (.slice a1 ea.length cap1) ea) := ⟨ha, he⟩
  have HA' : Hid (AffsAt w (.slice a2 xb.length cap2) xb ∧ EntsAt w (.slice a3 eb.length cap3) eb) := ⟨ha', he'⟩
  have HT : Hid (powTab w ∧ roundTab w ∧ firstTab w) := ⟨hP, hR, hF⟩
  obtain ⟨m, hm⟩ : ∃ m, IntKind.i64.wrap (n + 1) = m := ⟨_, rfl⟩
  obtain ⟨key, hkey⟩ : ∃ k, rkT x m = k := ⟨_, rfl⟩
  have HK : Hid (key.size ≤ maxLen) := by show _ ≤ _; rw [← hkey]; exact rk_size hfit
  obtain ⟨L, hL⟩ : ∃ L, rofT key n xa ea xb eb = L := ⟨_, rfl⟩
  obtain ⟨b, hb⟩ : ∃ b, rofB key n xa ea xb eb = b := ⟨_, rfl⟩
  have HM : Hid (rrB x n xa ea xb eb = b ∧ rrT x n xa ea xb eb = L) := by show _ ∧ _; unfold rrB rrT; rw [hm, hkey]; exact ⟨hb, hL⟩
  have HRO : Hid (∀ V, Below w.heap.size w V → Calls Tryz.prog 19 #[.string key, .int .i64 n, .agg #[.slice a0 xa.length cap0, .slice a1 ea.length cap1], .agg #[.slice a2 xb.length cap2, .slice a3 eb.length cap3]] V fun e w' => ∃ (b0 : Int) (p1 : Option Addr) (n1 k1 : Nat) (p2 : Option Addr) (n2 k2 : Nat) (b3 : Bool) (p4 : Option Addr) (n4 k4 : Nat) (b5 b6 : ByteArray), e = .returned (.tuple #[.agg #[.int .i64 b0, .slice p1 n1 k1, .slice p2 n2 k2, .bool b3, .slice p4 n4 k4, .string b5, .string b6], .bool b]) ∧ RelOwn V.heap.size w'.heap.size w' (.agg #[.int .i64 b0, .slice p1 n1 k1, .slice p2 n2 k2, .bool b3, .slice p4 n4 k4, .string b5, .string b6]) L ∧ Below V.heap.size V w') := fun V hV => by
    refine (implReleaseOf_any V key n _ _ _ _ xa ea xb eb HK.out (HA.out.1.below hV) (HA.out.2.below hV) (HA'.out.1.below hV) (HA'.out.2.below hV) (HT.out.1.below hV) (HT.out.2.1.below hV) (HT.out.2.2.below hV)).mono ?_
    rw [hL, hb]
    rintro e w' ⟨v, rfl, h1, h2⟩
    obtain ⟨_, _, _, _, _, _, _, _, _, _, _, _, _, rfl⟩ := RelAt.form2 h1.at
    exact ⟨_, _, _, _, _, _, _, _, _, _, _, _, _, rfl, h1, h2⟩
  obtain ⟨W, hW⟩ : ∃ W, (((w.alloc (.cells #[.slice a l cap, .slice a' l' cap'] 40)).alloc (.cells #[.slice a0 xa.length cap0, .slice a1 ea.length cap1] 43)).alloc (.cells #[.slice a2 xb.length cap2, .slice a3 eb.length cap3] 43)).alloc (.cells #[.int .i64 0, .slice none 0 0, .slice none 0 0, .bool false, .slice none 0 0, .string ⟨#[]⟩, .string ⟨#[]⟩] 37) = W := ⟨_, rfl⟩
  have Nb0W : Hid (W.heap[w.heap.size]? = some (.cells #[.slice a l cap, .slice a' l' cap'] 40 (0, 0))) := by
    have h9 := heap_alloc_last w (.cells #[.slice a l cap, .slice a' l' cap'] 40)
    try simp only [World.size_alloc] at h9
    show _ = _
    rw [← hW]
    rw [Below.heap_alloc _ _ _ (by simp <;> omega)]
    rw [Below.heap_alloc _ _ _ (by simp <;> omega)]
    rw [Below.heap_alloc _ _ _ (by simp <;> omega)]
    exact h9
  have Nb1W : Hid (W.heap[w.heap.size + 1]? = some (.cells #[.slice a0 xa.length cap0, .slice a1 ea.length cap1] 43 (0, 0))) := by
    have h9 := heap_alloc_last (w.alloc (.cells #[.slice a l cap, .slice a' l' cap'] 40)) (.cells #[.slice a0 xa.length cap0, .slice a1 ea.length cap1] 43)
    try simp only [World.size_alloc] at h9
    show _ = _
    rw [← hW]
    rw [Below.heap_alloc _ _ _ (by simp <;> omega)]
    rw [Below.heap_alloc _ _ _ (by simp <;> omega)]
    exact h9
  have Nb2W : Hid (W.heap[w.heap.size + 1 + 1]? = some (.cells #[.slice a2 xb.length cap2, .slice a3 eb.length cap3] 43 (0, 0))) := by
    have h9 := heap_alloc_last ((w.alloc (.cells #[.slice a l cap, .slice a' l' cap'] 40)).alloc (.cells #[.slice a0 xa.length cap0, .slice a1 ea.length cap1] 43)) (.cells #[.slice a2 xb.length cap2, .slice a3 eb.length cap3] 43)
    try simp only [World.size_alloc] at h9
    show _ = _
    rw [← hW]
    rw [Below.heap_alloc _ _ _ (by simp <;> omega)]
    exact h9
  have Nb3W : Hid (W.heap[w.heap.size + 1 + 1 + 1]? = some (.cells #[.int .i64 0, .slice none 0 0, .slice none 0 0, .bool false, .slice none 0 0, .string ⟨#[]⟩, .string ⟨#[]⟩] 37 (0, 0))) := by
    have h9 := heap_alloc_last (((w.alloc (.cells #[.slice a l cap, .slice a' l' cap'] 40)).alloc (.cells #[.slice a0 xa.length cap0, .slice a1 ea.length cap1] 43)).alloc (.cells #[.slice a2 xb.length cap2, .slice a3 eb.length cap3] 43)) (.cells #[.int .i64 0, .slice none 0 0, .slice none 0 0, .bool false, .slice none 0 0, .string ⟨#[]⟩, .string ⟨#[]⟩] 37)
    try simp only [World.size_alloc] at h9
    show _ = _
    rw [← hW]
    exact h9
  have KW : Hid (Below w.heap.size w W) := by show Below _ _ _; rw [← hW]; exact ((((Below.refl _ _).alloc (Nat.le_refl _) _).alloc (by simp <;> omega) _).alloc (by simp <;> omega) _).alloc (by simp <;> omega) _
  have HW : Hid ((((w.alloc (.cells #[.slice a l cap, .slice a' l' cap'] 40)).alloc (.cells #[.slice a0 xa.length cap0, .slice a1 ea.length cap1] 43)).alloc (.cells #[.slice a2 xb.length cap2, .slice a3 eb.length cap3] 43)).alloc (.cells #[.int .i64 0, .slice none 0 0, .slice none 0 0, .bool false, .slice none 0 0, .string ⟨#[]⟩, .string ⟨#[]⟩] 37) = W) := hW
  have hz9 : w.heap.size + 1 + 1 + 1 < W.heap.size := (Array.getElem?_eq_some_iff.1 Nb3W.out).1
  have HQb3 : Hid (w.heap.size ≤ w.heap.size + 1 + 1 + 1) := by show _ ≤ _; omega
  have HM' : Hid (rkT x m = key) := hkey
  clear h ha he ha' he' hP hR hF hW hfit hkey hL hb
  have s0_0 : W.cell? ⟨w.heap.size, 0, none⟩ = some (.slice a l cap) := by rw [cell_of_row _ _ 0 _ _ _ Nb0W.out]; rfl
  have s0_1 : W.cell? ⟨w.heap.size, 1, none⟩ = some (.slice a' l' cap') := by rw [cell_of_row _ _ 1 _ _ _ Nb0W.out]; rfl
  have s1_0 : W.cell? ⟨w.heap.size + 1, 0, none⟩ = some (.slice a0 xa.length cap0) := by rw [cell_of_row _ _ 0 _ _ _ Nb1W.out]; rfl
  have s1_1 : W.cell? ⟨w.heap.size + 1, 1, none⟩ = some (.slice a1 ea.length cap1) := by rw [cell_of_row _ _ 1 _ _ _ Nb1W.out]; rfl
  have s2_0 : W.cell? ⟨w.heap.size + 1 + 1, 0, none⟩ = some (.slice a2 xb.length cap2) := by rw [cell_of_row _ _ 0 _ _ _ Nb2W.out]; rfl
  have s2_1 : W.cell? ⟨w.heap.size + 1 + 1, 1, none⟩ = some (.slice a3 eb.length cap3) := by rw [cell_of_row _ _ 1 _ _ _ Nb2W.out]; rfl
  have s3_0 : W.cell? ⟨w.heap.size + 1 + 1 + 1, 0, none⟩ = some (.int .i64 0) := by rw [cell_of_row _ _ 0 _ _ _ Nb3W.out]; rfl
  have s3_1 : W.cell? ⟨w.heap.size + 1 + 1 + 1, 1, none⟩ = some (.slice none 0 0) := by rw [cell_of_row _ _ 1 _ _ _ Nb3W.out]; rfl
  have s3_2 : W.cell? ⟨w.heap.size + 1 + 1 + 1, 2, none⟩ = some (.slice none 0 0) := by rw [cell_of_row _ _ 2 _ _ _ Nb3W.out]; rfl
  have s3_3 : W.cell? ⟨w.heap.size + 1 + 1 + 1, 3, none⟩ = some (.bool false) := by rw [cell_of_row _ _ 3 _ _ _ Nb3W.out]; rfl
  have s3_4 : W.cell? ⟨w.heap.size + 1 + 1 + 1, 4, none⟩ = some (.slice none 0 0) := by rw [cell_of_row _ _ 4 _ _ _ Nb3W.out]; rfl
  have s3_5 : W.cell? ⟨w.heap.size + 1 + 1 + 1, 5, none⟩ = some (.string ⟨#[]⟩) := by rw [cell_of_row _ _ 5 _ _ _ Nb3W.out]; rfl
  have s3_6 : W.cell? ⟨w.heap.size + 1 + 1 + 1, 6, none⟩ = some (.string ⟨#[]⟩) := by rw [cell_of_row _ _ 6 _ _ _ Nb3W.out]; rfl
  go_enter Tryz.func10, Tryz.ntmps10
  go_wp2_with fail
  try rw [HW.out]
  refine wp_region_held_drew (S := (fun w' => w'.cell? ⟨w.heap.size, 0, none⟩ = some (.slice a l cap) ∧ w'.cell? ⟨w.heap.size, 1, none⟩ = some (.slice a' l' cap') ∧ w'.cell? ⟨w.heap.size + 1, 0, none⟩ = some (.slice a0 xa.length cap0) ∧ w'.cell? ⟨w.heap.size + 1, 1, none⟩ = some (.slice a1 ea.length cap1) ∧ w'.cell? ⟨w.heap.size + 1 + 1, 0, none⟩ = some (.slice a2 xb.length cap2) ∧ w'.cell? ⟨w.heap.size + 1 + 1, 1, none⟩ = some (.slice a3 eb.length cap3))) (by kernel_rfl) ?_ (fun hHeld => ?_)
  · exact ⟨by show W.cell? ⟨w.heap.size, 0, none⟩ = _; rw [cell_of_row _ _ 0 _ _ _ Nb0W.out]; rfl, by show W.cell? ⟨w.heap.size, 1, none⟩ = _; rw [cell_of_row _ _ 1 _ _ _ Nb0W.out]; rfl, by show W.cell? ⟨w.heap.size + 1, 0, none⟩ = _; rw [cell_of_row _ _ 0 _ _ _ Nb1W.out]; rfl, by show W.cell? ⟨w.heap.size + 1, 1, none⟩ = _; rw [cell_of_row _ _ 1 _ _ _ Nb1W.out]; rfl, by show W.cell? ⟨w.heap.size + 1 + 1, 0, none⟩ = _; rw [cell_of_row _ _ 0 _ _ _ Nb2W.out]; rfl, by show W.cell? ⟨w.heap.size + 1 + 1, 1, none⟩ = _; rw [cell_of_row _ _ 1 _ _ _ Nb2W.out]; rfl⟩
  refine tk 0 10 (.agg #[.slice a l cap, .slice a' l' cap']) ?_
  simp only [Act.put, List.setIfInBounds_toArray, List.set_cons_zero, List.set_cons_succ]
  refine tk 1 11 (.int .i64 n) ?_
  simp only [Act.put, List.setIfInBounds_toArray, List.set_cons_zero, List.set_cons_succ]
  refine tk 2 12 (.int .i64 m) ?_
  simp only [Act.put, List.setIfInBounds_toArray, List.set_cons_zero, List.set_cons_succ]
  refine tk 4 14 (.int .i64 n) ?_
  simp only [Act.put, List.setIfInBounds_toArray, List.set_cons_zero, List.set_cons_succ]
  refine tk 5 15 (.agg #[.slice a0 xa.length cap0, .slice a1 ea.length cap1]) ?_
  simp only [Act.put, List.setIfInBounds_toArray, List.set_cons_zero, List.set_cons_succ]
  refine tk 6 16 (.agg #[.slice a2 xb.length cap2, .slice a3 eb.length cap3]) ?_
  simp only [Act.put, List.setIfInBounds_toArray, List.set_cons_zero, List.set_cons_succ]
  obtain ⟨x0, hx⟩ : ∃ X, World.drew W = X := ⟨_, rfl⟩
  have Kx0 : Hid (Below w.heap.size w x0) := by show Below _ _ _; rw [← hx]; exact KW.out.drew
  have Zx0 : Hid (W.heap.size ≤ x0.heap.size) := by show _ ≤ _; rw [← hx]; exact Nat.le_refl _
  have Nb0x0 : Hid (x0.heap[w.heap.size]? = some (.cells #[.slice a l cap, .slice a' l' cap'] 40 (0, 0))) := by show _ = _; rw [← hx]; exact Nb0W.out
  have Nb1x0 : Hid (x0.heap[w.heap.size + 1]? = some (.cells #[.slice a0 xa.length cap0, .slice a1 ea.length cap1] 43 (0, 0))) := by show _ = _; rw [← hx]; exact Nb1W.out
  have Nb2x0 : Hid (x0.heap[w.heap.size + 1 + 1]? = some (.cells #[.slice a2 xb.length cap2, .slice a3 eb.length cap3] 43 (0, 0))) := by show _ = _; rw [← hx]; exact Nb2W.out
  have Nb3x0 : Hid (x0.heap[w.heap.size + 1 + 1 + 1]? = some (.cells #[.int .i64 0, .slice none 0 0, .slice none 0 0, .bool false, .slice none 0 0, .string ⟨#[]⟩, .string ⟨#[]⟩] 37 (0, 0))) := by show _ = _; rw [← hx]; exact Nb3W.out
  rw [hx]
  clear hx s0_0 s0_1 s1_0 s1_1 s2_0 s2_1 s3_0 s3_1 s3_2 s3_3 s3_4 s3_5 s3_6
  refine wpAnyH_ready (rs := [3]) (by kernel_rfl) (by simp) ?_
  refine AllReadyH.cons rfl (fun K hK => ?_) AllReadyH.nil
  go_simp
  refine (implRingKey_any _ _ x m (HR.out.below Kx0.out)).mono ?_
  rintro e x1 ⟨rfl, hb⟩
  rw [HM'.out]
  have Zx1 : Hid (x0.heap.size ≤ x1.heap.size) := hb.size
  have Kx1 : Hid (Below w.heap.size w x1) := Kx0.out.trans (hb.mono Kx0.out.size)
  have Nb0x1 : Hid (x1.heap[w.heap.size]? = some (.cells #[.slice a l cap, .slice a' l' cap'] 40 (0, 0))) := (hb.block _ (Array.getElem?_eq_some_iff.1 Nb0x0.out).1).trans Nb0x0.out
  have Nb1x1 : Hid (x1.heap[w.heap.size + 1]? = some (.cells #[.slice a0 xa.length cap0, .slice a1 ea.length cap1] 43 (0, 0))) := (hb.block _ (Array.getElem?_eq_some_iff.1 Nb1x0.out).1).trans Nb1x0.out
  have Nb2x1 : Hid (x1.heap[w.heap.size + 1 + 1]? = some (.cells #[.slice a2 xb.length cap2, .slice a3 eb.length cap3] 43 (0, 0))) := (hb.block _ (Array.getElem?_eq_some_iff.1 Nb2x0.out).1).trans Nb2x0.out
  have Nb3x1 : Hid (x1.heap[w.heap.size + 1 + 1 + 1]? = some (.cells #[.int .i64 0, .slice none 0 0, .slice none 0 0, .bool false, .slice none 0 0, .string ⟨#[]⟩, .string ⟨#[]⟩] 37 (0, 0))) := (hb.block _ (Array.getElem?_eq_some_iff.1 Nb3x0.out).1).trans Nb3x0.out
  clear hb
  refine hK.out _ _ ?_ (fun hHeld => ?_)
  · exact ⟨by show x1.cell? ⟨w.heap.size, 0, none⟩ = _; rw [cell_of_row _ _ 0 _ _ _ Nb0x1.out]; rfl, by show x1.cell? ⟨w.heap.size, 1, none⟩ = _; rw [cell_of_row _ _ 1 _ _ _ Nb0x1.out]; rfl, by show x1.cell? ⟨w.heap.size + 1, 0, none⟩ = _; rw [cell_of_row _ _ 0 _ _ _ Nb1x1.out]; rfl, by show x1.cell? ⟨w.heap.size + 1, 1, none⟩ = _; rw [cell_of_row _ _ 1 _ _ _ Nb1x1.out]; rfl, by show x1.cell? ⟨w.heap.size + 1 + 1, 0, none⟩ = _; rw [cell_of_row _ _ 0 _ _ _ Nb2x1.out]; rfl, by show x1.cell? ⟨w.heap.size + 1 + 1, 1, none⟩ = _; rw [cell_of_row _ _ 1 _ _ _ Nb2x1.out]; rfl⟩
  clear hK K
  try simp only [Act.put, List.setIfInBounds_toArray, List.set_cons_zero, List.set_cons_succ]
  refine wpAnyH_ready (rs := [7]) (by kernel_rfl) (by simp) ?_
  refine AllReadyH.cons rfl (fun K hK => ?_) AllReadyH.nil
  go_simp
  refine (HRO.out _ Kx1.out).mono ?_
  rintro e x2 ⟨b0, p1, n1, k1, p2, n2, k2, b3, p4, n4, k4, b5, b6, rfl, hg, hb⟩
  have Zx2 : Hid (x1.heap.size ≤ x2.heap.size) := hb.size
  have Kx2 : Hid (Below w.heap.size w x2) := Kx1.out.trans (hb.mono Kx1.out.size)
  have Nb0x2 : Hid (x2.heap[w.heap.size]? = some (.cells #[.slice a l cap, .slice a' l' cap'] 40 (0, 0))) := (hb.block _ (Array.getElem?_eq_some_iff.1 Nb0x1.out).1).trans Nb0x1.out
  have Nb1x2 : Hid (x2.heap[w.heap.size + 1]? = some (.cells #[.slice a0 xa.length cap0, .slice a1 ea.length cap1] 43 (0, 0))) := (hb.block _ (Array.getElem?_eq_some_iff.1 Nb1x1.out).1).trans Nb1x1.out
  have Nb2x2 : Hid (x2.heap[w.heap.size + 1 + 1]? = some (.cells #[.slice a2 xb.length cap2, .slice a3 eb.length cap3] 43 (0, 0))) := (hb.block _ (Array.getElem?_eq_some_iff.1 Nb2x1.out).1).trans Nb2x1.out
  have Nb3x2 : Hid (x2.heap[w.heap.size + 1 + 1 + 1]? = some (.cells #[.int .i64 0, .slice none 0 0, .slice none 0 0, .bool false, .slice none 0 0, .string ⟨#[]⟩, .string ⟨#[]⟩] 37 (0, 0))) := (hb.block _ (Array.getElem?_eq_some_iff.1 Nb3x1.out).1).trans Nb3x1.out
  have Ox2 : Hid (RelOwn x1.heap.size x2.heap.size x2 (.agg #[.int .i64 b0, .slice p1 n1 k1, .slice p2 n2 k2, .bool b3, .slice p4 n4 k4, .string b5, .string b6]) L) := hg
  clear hb
  refine hK.out _ _ ?_ (fun hHeld => ?_)
  · exact ⟨by show x2.cell? ⟨w.heap.size, 0, none⟩ = _; rw [cell_of_row _ _ 0 _ _ _ Nb0x2.out]; rfl, by show x2.cell? ⟨w.heap.size, 1, none⟩ = _; rw [cell_of_row _ _ 1 _ _ _ Nb0x2.out]; rfl, by show x2.cell? ⟨w.heap.size + 1, 0, none⟩ = _; rw [cell_of_row _ _ 0 _ _ _ Nb1x2.out]; rfl, by show x2.cell? ⟨w.heap.size + 1, 1, none⟩ = _; rw [cell_of_row _ _ 1 _ _ _ Nb1x2.out]; rfl, by show x2.cell? ⟨w.heap.size + 1 + 1, 0, none⟩ = _; rw [cell_of_row _ _ 0 _ _ _ Nb2x2.out]; rfl, by show x2.cell? ⟨w.heap.size + 1 + 1, 1, none⟩ = _; rw [cell_of_row _ _ 1 _ _ _ Nb2x2.out]; rfl⟩
  clear hK K
  try simp only [Act.put, List.setIfInBounds_toArray, List.set_cons_zero, List.set_cons_succ]
  refine tk 8 18 (.agg #[.int .i64 b0, .slice p1 n1 k1, .slice p2 n2 k2, .bool b3, .slice p4 n4 k4, .string b5, .string b6]) ?_
  simp only [Act.put, List.setIfInBounds_toArray, List.set_cons_zero, List.set_cons_succ]
  refine tk 9 19 (.bool b) ?_
  simp only [Act.put, List.setIfInBounds_toArray, List.set_cons_zero, List.set_cons_succ]
  refine wpAnyH_ready (rs := [10]) (by kernel_rfl) (by simp) ?_
  refine AllReadyH.cons rfl (fun K hK => ?_) AllReadyH.nil
  refine step_store_row rfl 37 (.tmp 8) (.tmp 18) rfl (w.heap.size + 1 + 1 + 1) #[.int .i64 b0, .slice p1 n1 k1, .slice p2 n2 k2, .bool b3, .slice p4 n4 k4, .string b5, .string b6] rfl rfl 37 _ Nb3x2.out (by kernel_rfl) rfl (by simp [Value.oneCell']) rfl ?_
  obtain ⟨x3, hx⟩ : ∃ X, x2.setRow (w.heap.size + 1 + 1 + 1) #[.int .i64 b0, .slice p1 n1 k1, .slice p2 n2 k2, .bool b3, .slice p4 n4 k4, .string b5, .string b6] = X := ⟨_, rfl⟩
  have Kx3 : Hid (Below w.heap.size w x3) := by show Below _ _ _; rw [← hx]; exact below_setRow Kx2.out HQb3.out _
  have Zx3 : Hid (x3.heap.size = x2.heap.size) := by show _ = _; rw [← hx]; simp
  have zx0 := Zx0.out
  have zx1 := Zx1.out
  have zx2 := Zx2.out
  have Ox3 : Hid (RelOwn x1.heap.size x2.heap.size x3 (.agg #[.int .i64 b0, .slice p1 n1 k1, .slice p2 n2 k2, .bool b3, .slice p4 n4 k4, .string b5, .string b6]) L) := by have h9 := Ox2.out; simp only [Hid] at h9 ⊢; rw [← hx]; exact relOwn_setRow486 h9 (by omega) _
  have Nb3x3 : Hid (x3.heap[w.heap.size + 1 + 1 + 1]? = some (.cells #[.int .i64 b0, .slice p1 n1 k1, .slice p2 n2 k2, .bool b3, .slice p4 n4 k4, .string b5, .string b6] 37 (0, 0))) := by show _ = _; rw [← hx]; exact setRow_heap _ _ _ _ _ _ Nb3x2.out
  have Nb0x3 : Hid (x3.heap[w.heap.size]? = some (.cells #[.slice a l cap, .slice a' l' cap'] 40 (0, 0))) := by show _ = _; rw [← hx]; exact (setRow_other _ _ _ _ (by omega)).trans Nb0x2.out
  have Nb1x3 : Hid (x3.heap[w.heap.size + 1]? = some (.cells #[.slice a0 xa.length cap0, .slice a1 ea.length cap1] 43 (0, 0))) := by show _ = _; rw [← hx]; exact (setRow_other _ _ _ _ (by omega)).trans Nb1x2.out
  have Nb2x3 : Hid (x3.heap[w.heap.size + 1 + 1]? = some (.cells #[.slice a2 xb.length cap2, .slice a3 eb.length cap3] 43 (0, 0))) := by show _ = _; rw [← hx]; exact (setRow_other _ _ _ _ (by omega)).trans Nb2x2.out
  clear zx0
  clear zx1
  clear zx2
  rw [hx]
  clear hx
  refine hK.out _ _ ?_ (fun hHeld => ?_)
  · exact ⟨by show x3.cell? ⟨w.heap.size, 0, none⟩ = _; rw [cell_of_row _ _ 0 _ _ _ Nb0x3.out]; rfl, by show x3.cell? ⟨w.heap.size, 1, none⟩ = _; rw [cell_of_row _ _ 1 _ _ _ Nb0x3.out]; rfl, by show x3.cell? ⟨w.heap.size + 1, 0, none⟩ = _; rw [cell_of_row _ _ 0 _ _ _ Nb1x3.out]; rfl, by show x3.cell? ⟨w.heap.size + 1, 1, none⟩ = _; rw [cell_of_row _ _ 1 _ _ _ Nb1x3.out]; rfl, by show x3.cell? ⟨w.heap.size + 1 + 1, 0, none⟩ = _; rw [cell_of_row _ _ 0 _ _ _ Nb2x3.out]; rfl, by show x3.cell? ⟨w.heap.size + 1 + 1, 1, none⟩ = _; rw [cell_of_row _ _ 1 _ _ _ Nb2x3.out]; rfl⟩
  clear hK K
  try simp only [Act.put, List.setIfInBounds_toArray, List.set_cons_zero, List.set_cons_succ]
  refine tk 11 9 (.bool b) ?_
  simp only [Act.put, List.setIfInBounds_toArray, List.set_cons_zero, List.set_cons_succ]
  refine wpAnyH_done (by kernel_rfl) ?_ _
  have r0 : x3.cell? ⟨w.heap.size + 1 + 1 + 1, 0, none⟩ = some (.int .i64 b0) := by rw [cell_of_row _ _ 0 _ _ _ Nb3x3.out]; rfl
  have r1 : x3.cell? ⟨w.heap.size + 1 + 1 + 1, 1, none⟩ = some (.slice p1 n1 k1) := by rw [cell_of_row _ _ 1 _ _ _ Nb3x3.out]; rfl
  have r2 : x3.cell? ⟨w.heap.size + 1 + 1 + 1, 2, none⟩ = some (.slice p2 n2 k2) := by rw [cell_of_row _ _ 2 _ _ _ Nb3x3.out]; rfl
  have r3 : x3.cell? ⟨w.heap.size + 1 + 1 + 1, 3, none⟩ = some (.bool b3) := by rw [cell_of_row _ _ 3 _ _ _ Nb3x3.out]; rfl
  have r4 : x3.cell? ⟨w.heap.size + 1 + 1 + 1, 4, none⟩ = some (.slice p4 n4 k4) := by rw [cell_of_row _ _ 4 _ _ _ Nb3x3.out]; rfl
  have r5 : x3.cell? ⟨w.heap.size + 1 + 1 + 1, 5, none⟩ = some (.string b5) := by rw [cell_of_row _ _ 5 _ _ _ Nb3x3.out]; rfl
  have r6 : x3.cell? ⟨w.heap.size + 1 + 1 + 1, 6, none⟩ = some (.string b6) := by rw [cell_of_row _ _ 6 _ _ _ Nb3x3.out]; rfl
  have zx0 := Zx0.out
  have zx1 := Zx1.out
  have zx2 := Zx2.out
  have zx3 := Zx3.out
  go_wp2
  refine bodyPost_ret (v := .tuple #[.agg #[.int .i64 b0, .slice p1 n1 k1, .slice p2 n2 k2, .bool b3, .slice p4 n4 k4, .string b5, .string b6], .bool b]) (by simp [results, Tryz.results10, go_sem, r0, r1, r2, r3, r4, r5, r6]) rfl ⟨_, by rw [HM.out.1], ?_, Kx3.out⟩
  rw [HM.out.2]
  exact Ox3.out.weak (by omega) (by omega)
set_option maxRecDepth 100000 in
set_option maxHeartbeats 8000000 in
theorem specRingRelease_any (w : World) (v : Value) (x : RingM) (n : Int) (va ve ua ue : Value) (xa : List Aff) (ea : List (ByteArray × ByteArray)) (xb : List Aff) (eb : List (ByteArray × ByteArray)) (h : RingAt w v x) (ha : AffsAt w va xa) (he : EntsAt w ve ea) (ha' : AffsAt w ua xb) (he' : EntsAt w ue eb) (hP : powTab w) (hR : roundTab w) (hF : firstTab w) :
    Calls Tryz.prog 7 #[v, .int .i64 n, .agg #[va, ve], .agg #[ua, ue]] w fun e w' => ∃ v', e = .returned (.tuple #[v', .bool (rrB x n xa ea xb eb)]) ∧ RelOwn w.heap.size w'.heap.size w' v' (rrT x n xa ea xb eb) ∧ Below w.heap.size w w' := by
  have hfit := ring_fit h
  obtain ⟨a, l, cap, a', l', cap', rfl⟩ := h.form2
  obtain ⟨a0, cap0, rfl, hc0, hm0⟩ := ha.form
  obtain ⟨a1, cap1, rfl, hc1, hm1⟩ := he.form
  obtain ⟨a2, cap2, rfl, hc2, hm2⟩ := ha'.form
  obtain ⟨a3, cap3, rfl, hc3, hm3⟩ := he'.form
  have HR : Hid (RingAt w (.agg #[.slice a l cap, .slice a' l' cap']) x) := h
  have HA : Hid (AffsAt w (.slice a0 xa.length cap0) xa ∧ EntsAt w (.slice a1 ea.length cap1) ea) := ⟨ha, he⟩
  have HA' : Hid (AffsAt w (.slice a2 xb.length cap2) xb ∧ EntsAt w (.slice a3 eb.length cap3) eb) := ⟨ha', he'⟩
  have HT : Hid (powTab w ∧ roundTab w ∧ firstTab w) := ⟨hP, hR, hF⟩
  obtain ⟨m, hm⟩ : ∃ m, IntKind.i64.wrap (n + 1) = m := ⟨_, rfl⟩
  obtain ⟨key, hkey⟩ : ∃ k, rkT x m = k := ⟨_, rfl⟩
  have HK : Hid (key.size ≤ maxLen) := by show _ ≤ _; rw [← hkey]; exact rk_size hfit
  obtain ⟨L, hL⟩ : ∃ L, rofT key n xa ea xb eb = L := ⟨_, rfl⟩
  obtain ⟨b, hb⟩ : ∃ b, rofB key n xa ea xb eb = b := ⟨_, rfl⟩
  have HM : Hid (rrB x n xa ea xb eb = b ∧ rrT x n xa ea xb eb = L) := by show _ ∧ _; unfold rrB rrT; rw [hm, hkey]; exact ⟨hb, hL⟩
  have HRO : Hid (∀ V, Below w.heap.size w V → Calls Tryz.prog 18 #[.string key, .int .i64 n, .agg #[.slice a0 xa.length cap0, .slice a1 ea.length cap1], .agg #[.slice a2 xb.length cap2, .slice a3 eb.length cap3]] V fun e w' => ∃ (b0 : Int) (p1 : Option Addr) (n1 k1 : Nat) (p2 : Option Addr) (n2 k2 : Nat) (b3 : Bool) (p4 : Option Addr) (n4 k4 : Nat) (b5 b6 : ByteArray), e = .returned (.tuple #[.agg #[.int .i64 b0, .slice p1 n1 k1, .slice p2 n2 k2, .bool b3, .slice p4 n4 k4, .string b5, .string b6], .bool b]) ∧ RelOwn V.heap.size w'.heap.size w' (.agg #[.int .i64 b0, .slice p1 n1 k1, .slice p2 n2 k2, .bool b3, .slice p4 n4 k4, .string b5, .string b6]) L ∧ Below V.heap.size V w') := fun V hV => by
    refine (specReleaseOf_any V key n _ _ _ _ xa ea xb eb HK.out (HA.out.1.below hV) (HA.out.2.below hV) (HA'.out.1.below hV) (HA'.out.2.below hV) (HT.out.1.below hV) (HT.out.2.1.below hV) (HT.out.2.2.below hV)).mono ?_
    rw [hL, hb]
    rintro e w' ⟨v, rfl, h1, h2⟩
    obtain ⟨_, _, _, _, _, _, _, _, _, _, _, _, _, rfl⟩ := RelAt.form2 h1.at
    exact ⟨_, _, _, _, _, _, _, _, _, _, _, _, _, rfl, h1, h2⟩
  obtain ⟨W, hW⟩ : ∃ W, (((w.alloc (.cells #[.slice a l cap, .slice a' l' cap'] 40)).alloc (.cells #[.slice a0 xa.length cap0, .slice a1 ea.length cap1] 43)).alloc (.cells #[.slice a2 xb.length cap2, .slice a3 eb.length cap3] 43)).alloc (.cells #[.int .i64 0, .slice none 0 0, .slice none 0 0, .bool false, .slice none 0 0, .string ⟨#[]⟩, .string ⟨#[]⟩] 37) = W := ⟨_, rfl⟩
  have Nb0W : Hid (W.heap[w.heap.size]? = some (.cells #[.slice a l cap, .slice a' l' cap'] 40 (0, 0))) := by
    have h9 := heap_alloc_last w (.cells #[.slice a l cap, .slice a' l' cap'] 40)
    try simp only [World.size_alloc] at h9
    show _ = _
    rw [← hW]
    rw [Below.heap_alloc _ _ _ (by simp <;> omega)]
    rw [Below.heap_alloc _ _ _ (by simp <;> omega)]
    rw [Below.heap_alloc _ _ _ (by simp <;> omega)]
    exact h9
  have Nb1W : Hid (W.heap[w.heap.size + 1]? = some (.cells #[.slice a0 xa.length cap0, .slice a1 ea.length cap1] 43 (0, 0))) := by
    have h9 := heap_alloc_last (w.alloc (.cells #[.slice a l cap, .slice a' l' cap'] 40)) (.cells #[.slice a0 xa.length cap0, .slice a1 ea.length cap1] 43)
    try simp only [World.size_alloc] at h9
    show _ = _
    rw [← hW]
    rw [Below.heap_alloc _ _ _ (by simp <;> omega)]
    rw [Below.heap_alloc _ _ _ (by simp <;> omega)]
    exact h9
  have Nb2W : Hid (W.heap[w.heap.size + 1 + 1]? = some (.cells #[.slice a2 xb.length cap2, .slice a3 eb.length cap3] 43 (0, 0))) := by
    have h9 := heap_alloc_last ((w.alloc (.cells #[.slice a l cap, .slice a' l' cap'] 40)).alloc (.cells #[.slice a0 xa.length cap0, .slice a1 ea.length cap1] 43)) (.cells #[.slice a2 xb.length cap2, .slice a3 eb.length cap3] 43)
    try simp only [World.size_alloc] at h9
    show _ = _
    rw [← hW]
    rw [Below.heap_alloc _ _ _ (by simp <;> omega)]
    exact h9
  have Nb3W : Hid (W.heap[w.heap.size + 1 + 1 + 1]? = some (.cells #[.int .i64 0, .slice none 0 0, .slice none 0 0, .bool false, .slice none 0 0, .string ⟨#[]⟩, .string ⟨#[]⟩] 37 (0, 0))) := by
    have h9 := heap_alloc_last (((w.alloc (.cells #[.slice a l cap, .slice a' l' cap'] 40)).alloc (.cells #[.slice a0 xa.length cap0, .slice a1 ea.length cap1] 43)).alloc (.cells #[.slice a2 xb.length cap2, .slice a3 eb.length cap3] 43)) (.cells #[.int .i64 0, .slice none 0 0, .slice none 0 0, .bool false, .slice none 0 0, .string ⟨#[]⟩, .string ⟨#[]⟩] 37)
    try simp only [World.size_alloc] at h9
    show _ = _
    rw [← hW]
    exact h9
  have KW : Hid (Below w.heap.size w W) := by show Below _ _ _; rw [← hW]; exact ((((Below.refl _ _).alloc (Nat.le_refl _) _).alloc (by simp <;> omega) _).alloc (by simp <;> omega) _).alloc (by simp <;> omega) _
  have HW : Hid ((((w.alloc (.cells #[.slice a l cap, .slice a' l' cap'] 40)).alloc (.cells #[.slice a0 xa.length cap0, .slice a1 ea.length cap1] 43)).alloc (.cells #[.slice a2 xb.length cap2, .slice a3 eb.length cap3] 43)).alloc (.cells #[.int .i64 0, .slice none 0 0, .slice none 0 0, .bool false, .slice none 0 0, .string ⟨#[]⟩, .string ⟨#[]⟩] 37) = W) := hW
  have hz9 : w.heap.size + 1 + 1 + 1 < W.heap.size := (Array.getElem?_eq_some_iff.1 Nb3W.out).1
  have HQb3 : Hid (w.heap.size ≤ w.heap.size + 1 + 1 + 1) := by show _ ≤ _; omega
  have HM' : Hid (rkT x m = key) := hkey
  clear h ha he ha' he' hP hR hF hW hfit hkey hL hb
  have s0_0 : W.cell? ⟨w.heap.size, 0, none⟩ = some (.slice a l cap) := by rw [cell_of_row _ _ 0 _ _ _ Nb0W.out]; rfl
  have s0_1 : W.cell? ⟨w.heap.size, 1, none⟩ = some (.slice a' l' cap') := by rw [cell_of_row _ _ 1 _ _ _ Nb0W.out]; rfl
  have s1_0 : W.cell? ⟨w.heap.size + 1, 0, none⟩ = some (.slice a0 xa.length cap0) := by rw [cell_of_row _ _ 0 _ _ _ Nb1W.out]; rfl
  have s1_1 : W.cell? ⟨w.heap.size + 1, 1, none⟩ = some (.slice a1 ea.length cap1) := by rw [cell_of_row _ _ 1 _ _ _ Nb1W.out]; rfl
  have s2_0 : W.cell? ⟨w.heap.size + 1 + 1, 0, none⟩ = some (.slice a2 xb.length cap2) := by rw [cell_of_row _ _ 0 _ _ _ Nb2W.out]; rfl
  have s2_1 : W.cell? ⟨w.heap.size + 1 + 1, 1, none⟩ = some (.slice a3 eb.length cap3) := by rw [cell_of_row _ _ 1 _ _ _ Nb2W.out]; rfl
  have s3_0 : W.cell? ⟨w.heap.size + 1 + 1 + 1, 0, none⟩ = some (.int .i64 0) := by rw [cell_of_row _ _ 0 _ _ _ Nb3W.out]; rfl
  have s3_1 : W.cell? ⟨w.heap.size + 1 + 1 + 1, 1, none⟩ = some (.slice none 0 0) := by rw [cell_of_row _ _ 1 _ _ _ Nb3W.out]; rfl
  have s3_2 : W.cell? ⟨w.heap.size + 1 + 1 + 1, 2, none⟩ = some (.slice none 0 0) := by rw [cell_of_row _ _ 2 _ _ _ Nb3W.out]; rfl
  have s3_3 : W.cell? ⟨w.heap.size + 1 + 1 + 1, 3, none⟩ = some (.bool false) := by rw [cell_of_row _ _ 3 _ _ _ Nb3W.out]; rfl
  have s3_4 : W.cell? ⟨w.heap.size + 1 + 1 + 1, 4, none⟩ = some (.slice none 0 0) := by rw [cell_of_row _ _ 4 _ _ _ Nb3W.out]; rfl
  have s3_5 : W.cell? ⟨w.heap.size + 1 + 1 + 1, 5, none⟩ = some (.string ⟨#[]⟩) := by rw [cell_of_row _ _ 5 _ _ _ Nb3W.out]; rfl
  have s3_6 : W.cell? ⟨w.heap.size + 1 + 1 + 1, 6, none⟩ = some (.string ⟨#[]⟩) := by rw [cell_of_row _ _ 6 _ _ _ Nb3W.out]; rfl
  go_enter Tryz.func7, Tryz.ntmps7
  go_wp2_with fail
  try rw [HW.out]
  refine (specRingOk_any _ _ x (HR.out.below KW.out)).mono ?_
  rintro e w1 ⟨rfl, hb1⟩
  have Kw1 : Hid (Below w.heap.size w w1) := KW.out.trans (hb1.mono KW.out.size)
  have Nb0w1 : Hid (w1.heap[w.heap.size]? = some (.cells #[.slice a l cap, .slice a' l' cap'] 40 (0, 0))) := (hb1.block _ (by omega)).trans Nb0W.out
  have Nb1w1 : Hid (w1.heap[w.heap.size + 1]? = some (.cells #[.slice a0 xa.length cap0, .slice a1 ea.length cap1] 43 (0, 0))) := (hb1.block _ (by omega)).trans Nb1W.out
  have Nb2w1 : Hid (w1.heap[w.heap.size + 1 + 1]? = some (.cells #[.slice a2 xb.length cap2, .slice a3 eb.length cap3] 43 (0, 0))) := (hb1.block _ (by omega)).trans Nb2W.out
  have Nb3w1 : Hid (w1.heap[w.heap.size + 1 + 1 + 1]? = some (.cells #[.int .i64 0, .slice none 0 0, .slice none 0 0, .bool false, .slice none 0 0, .string ⟨#[]⟩, .string ⟨#[]⟩] 37 (0, 0))) := (hb1.block _ (by omega)).trans Nb3W.out
  have hz91 : w.heap.size + 1 + 1 + 1 < w1.heap.size := Nat.lt_of_lt_of_le hz9 hb1.size
  clear hb1 s0_0 s0_1 s1_0 s1_1 s2_0 s2_1 s3_0 s3_1 s3_2 s3_3 s3_4 s3_5 s3_6
  have s0_0 : w1.cell? ⟨w.heap.size, 0, none⟩ = some (.slice a l cap) := by rw [cell_of_row _ _ 0 _ _ _ Nb0w1.out]; rfl
  have s0_1 : w1.cell? ⟨w.heap.size, 1, none⟩ = some (.slice a' l' cap') := by rw [cell_of_row _ _ 1 _ _ _ Nb0w1.out]; rfl
  have s1_0 : w1.cell? ⟨w.heap.size + 1, 0, none⟩ = some (.slice a0 xa.length cap0) := by rw [cell_of_row _ _ 0 _ _ _ Nb1w1.out]; rfl
  have s1_1 : w1.cell? ⟨w.heap.size + 1, 1, none⟩ = some (.slice a1 ea.length cap1) := by rw [cell_of_row _ _ 1 _ _ _ Nb1w1.out]; rfl
  have s2_0 : w1.cell? ⟨w.heap.size + 1 + 1, 0, none⟩ = some (.slice a2 xb.length cap2) := by rw [cell_of_row _ _ 0 _ _ _ Nb2w1.out]; rfl
  have s2_1 : w1.cell? ⟨w.heap.size + 1 + 1, 1, none⟩ = some (.slice a3 eb.length cap3) := by rw [cell_of_row _ _ 1 _ _ _ Nb2w1.out]; rfl
  have s3_0 : w1.cell? ⟨w.heap.size + 1 + 1 + 1, 0, none⟩ = some (.int .i64 0) := by rw [cell_of_row _ _ 0 _ _ _ Nb3w1.out]; rfl
  have s3_1 : w1.cell? ⟨w.heap.size + 1 + 1 + 1, 1, none⟩ = some (.slice none 0 0) := by rw [cell_of_row _ _ 1 _ _ _ Nb3w1.out]; rfl
  have s3_2 : w1.cell? ⟨w.heap.size + 1 + 1 + 1, 2, none⟩ = some (.slice none 0 0) := by rw [cell_of_row _ _ 2 _ _ _ Nb3w1.out]; rfl
  have s3_3 : w1.cell? ⟨w.heap.size + 1 + 1 + 1, 3, none⟩ = some (.bool false) := by rw [cell_of_row _ _ 3 _ _ _ Nb3w1.out]; rfl
  have s3_4 : w1.cell? ⟨w.heap.size + 1 + 1 + 1, 4, none⟩ = some (.slice none 0 0) := by rw [cell_of_row _ _ 4 _ _ _ Nb3w1.out]; rfl
  have s3_5 : w1.cell? ⟨w.heap.size + 1 + 1 + 1, 5, none⟩ = some (.string ⟨#[]⟩) := by rw [cell_of_row _ _ 5 _ _ _ Nb3w1.out]; rfl
  have s3_6 : w1.cell? ⟨w.heap.size + 1 + 1 + 1, 6, none⟩ = some (.string ⟨#[]⟩) := by rw [cell_of_row _ _ 6 _ _ _ Nb3w1.out]; rfl
  cases hok : ringOk x with
  | false =>
    have HNO : Hid (rrB x n xa ea xb eb = false ∧ rrT x n xa ea xb eb = (0, ([], [], false, []), ⟨#[]⟩, ⟨#[]⟩)) := rr_no hok
    have f0 : w1.frozen? ⟨w.heap.size + 1 + 1 + 1, 0, none⟩ = false := frozen_of_row _ _ 0 _ _ Nb3w1.out
    have f1 : w1.frozen? ⟨w.heap.size + 1 + 1 + 1, 1, none⟩ = false := frozen_of_row _ _ 1 _ _ Nb3w1.out
    have f2 : w1.frozen? ⟨w.heap.size + 1 + 1 + 1, 2, none⟩ = false := frozen_of_row _ _ 2 _ _ Nb3w1.out
    have f3 : w1.frozen? ⟨w.heap.size + 1 + 1 + 1, 3, none⟩ = false := frozen_of_row _ _ 3 _ _ Nb3w1.out
    have f4 : w1.frozen? ⟨w.heap.size + 1 + 1 + 1, 4, none⟩ = false := frozen_of_row _ _ 4 _ _ Nb3w1.out
    have f5 : w1.frozen? ⟨w.heap.size + 1 + 1 + 1, 5, none⟩ = false := frozen_of_row _ _ 5 _ _ Nb3w1.out
    have f6 : w1.frozen? ⟨w.heap.size + 1 + 1 + 1, 6, none⟩ = false := frozen_of_row _ _ 6 _ _ Nb3w1.out
    go_wp2
    refine bodyPost_ret (v := .tuple #[.agg #[.int .i64 0, .slice none 0 0, .slice none 0 0, .bool false, .slice none 0 0, .string ⟨#[]⟩, .string ⟨#[]⟩], .bool false]) (by simp [results, Tryz.results7, go_sem, s3_0, s3_1, s3_2, s3_3, s3_4, s3_5, s3_6, World.cell?_setCell_same', World.cell?_setCell_other]) rfl ⟨_, by rw [HNO.out.1], by rw [HNO.out.2]; exact relNil486 _ _ _, ?_⟩
    exact below_sets488 Kw1.out (by omega) _ _ _ _ _ _ _
  | true =>
    go_wp2_with fail
    refine wp_region_held_drew (S := (fun w' => w'.cell? ⟨w.heap.size, 0, none⟩ = some (.slice a l cap) ∧ w'.cell? ⟨w.heap.size, 1, none⟩ = some (.slice a' l' cap') ∧ w'.cell? ⟨w.heap.size + 1, 0, none⟩ = some (.slice a0 xa.length cap0) ∧ w'.cell? ⟨w.heap.size + 1, 1, none⟩ = some (.slice a1 ea.length cap1) ∧ w'.cell? ⟨w.heap.size + 1 + 1, 0, none⟩ = some (.slice a2 xb.length cap2) ∧ w'.cell? ⟨w.heap.size + 1 + 1, 1, none⟩ = some (.slice a3 eb.length cap3))) (by kernel_rfl) ?_ (fun hHeld => ?_)
    · exact ⟨by show w1.cell? ⟨w.heap.size, 0, none⟩ = _; rw [cell_of_row _ _ 0 _ _ _ Nb0w1.out]; rfl, by show w1.cell? ⟨w.heap.size, 1, none⟩ = _; rw [cell_of_row _ _ 1 _ _ _ Nb0w1.out]; rfl, by show w1.cell? ⟨w.heap.size + 1, 0, none⟩ = _; rw [cell_of_row _ _ 0 _ _ _ Nb1w1.out]; rfl, by show w1.cell? ⟨w.heap.size + 1, 1, none⟩ = _; rw [cell_of_row _ _ 1 _ _ _ Nb1w1.out]; rfl, by show w1.cell? ⟨w.heap.size + 1 + 1, 0, none⟩ = _; rw [cell_of_row _ _ 0 _ _ _ Nb2w1.out]; rfl, by show w1.cell? ⟨w.heap.size + 1 + 1, 1, none⟩ = _; rw [cell_of_row _ _ 1 _ _ _ Nb2w1.out]; rfl⟩
    refine tk 0 14 (.agg #[.slice a l cap, .slice a' l' cap']) ?_
    simp only [Act.put, List.setIfInBounds_toArray, List.set_cons_zero, List.set_cons_succ]
    refine tk 1 15 (.int .i64 n) ?_
    simp only [Act.put, List.setIfInBounds_toArray, List.set_cons_zero, List.set_cons_succ]
    refine tk 2 16 (.int .i64 m) ?_
    simp only [Act.put, List.setIfInBounds_toArray, List.set_cons_zero, List.set_cons_succ]
    refine tk 4 18 (.int .i64 n) ?_
    simp only [Act.put, List.setIfInBounds_toArray, List.set_cons_zero, List.set_cons_succ]
    refine tk 5 19 (.agg #[.slice a0 xa.length cap0, .slice a1 ea.length cap1]) ?_
    simp only [Act.put, List.setIfInBounds_toArray, List.set_cons_zero, List.set_cons_succ]
    refine tk 6 20 (.agg #[.slice a2 xb.length cap2, .slice a3 eb.length cap3]) ?_
    simp only [Act.put, List.setIfInBounds_toArray, List.set_cons_zero, List.set_cons_succ]
    obtain ⟨x0, hx⟩ : ∃ X, World.drew w1 = X := ⟨_, rfl⟩
    have Kx0 : Hid (Below w.heap.size w x0) := by show Below _ _ _; rw [← hx]; exact Kw1.out.drew
    have Zx0 : Hid (w1.heap.size ≤ x0.heap.size) := by show _ ≤ _; rw [← hx]; exact Nat.le_refl _
    have Nb0x0 : Hid (x0.heap[w.heap.size]? = some (.cells #[.slice a l cap, .slice a' l' cap'] 40 (0, 0))) := by show _ = _; rw [← hx]; exact Nb0w1.out
    have Nb1x0 : Hid (x0.heap[w.heap.size + 1]? = some (.cells #[.slice a0 xa.length cap0, .slice a1 ea.length cap1] 43 (0, 0))) := by show _ = _; rw [← hx]; exact Nb1w1.out
    have Nb2x0 : Hid (x0.heap[w.heap.size + 1 + 1]? = some (.cells #[.slice a2 xb.length cap2, .slice a3 eb.length cap3] 43 (0, 0))) := by show _ = _; rw [← hx]; exact Nb2w1.out
    have Nb3x0 : Hid (x0.heap[w.heap.size + 1 + 1 + 1]? = some (.cells #[.int .i64 0, .slice none 0 0, .slice none 0 0, .bool false, .slice none 0 0, .string ⟨#[]⟩, .string ⟨#[]⟩] 37 (0, 0))) := by show _ = _; rw [← hx]; exact Nb3w1.out
    rw [hx]
    clear hx s0_0 s0_1 s1_0 s1_1 s2_0 s2_1 s3_0 s3_1 s3_2 s3_3 s3_4 s3_5 s3_6
    refine wpAnyH_ready (rs := [3]) (by kernel_rfl) (by simp) ?_
    refine AllReadyH.cons rfl (fun K hK => ?_) AllReadyH.nil
    go_simp
    refine (l11Key_any _ _ x m (HR.out.below Kx0.out) (by have h9 := ringOk_good hok; rw [h9.2.2.1])).mono ?_
    rintro e x1 ⟨rfl, hb⟩
    rw [key490 hok, HM'.out]
    have Zx1 : Hid (x0.heap.size ≤ x1.heap.size) := hb.size
    have Kx1 : Hid (Below w.heap.size w x1) := Kx0.out.trans (hb.mono Kx0.out.size)
    have Nb0x1 : Hid (x1.heap[w.heap.size]? = some (.cells #[.slice a l cap, .slice a' l' cap'] 40 (0, 0))) := (hb.block _ (Array.getElem?_eq_some_iff.1 Nb0x0.out).1).trans Nb0x0.out
    have Nb1x1 : Hid (x1.heap[w.heap.size + 1]? = some (.cells #[.slice a0 xa.length cap0, .slice a1 ea.length cap1] 43 (0, 0))) := (hb.block _ (Array.getElem?_eq_some_iff.1 Nb1x0.out).1).trans Nb1x0.out
    have Nb2x1 : Hid (x1.heap[w.heap.size + 1 + 1]? = some (.cells #[.slice a2 xb.length cap2, .slice a3 eb.length cap3] 43 (0, 0))) := (hb.block _ (Array.getElem?_eq_some_iff.1 Nb2x0.out).1).trans Nb2x0.out
    have Nb3x1 : Hid (x1.heap[w.heap.size + 1 + 1 + 1]? = some (.cells #[.int .i64 0, .slice none 0 0, .slice none 0 0, .bool false, .slice none 0 0, .string ⟨#[]⟩, .string ⟨#[]⟩] 37 (0, 0))) := (hb.block _ (Array.getElem?_eq_some_iff.1 Nb3x0.out).1).trans Nb3x0.out
    clear hb
    refine hK.out _ _ ?_ (fun hHeld => ?_)
    · exact ⟨by show x1.cell? ⟨w.heap.size, 0, none⟩ = _; rw [cell_of_row _ _ 0 _ _ _ Nb0x1.out]; rfl, by show x1.cell? ⟨w.heap.size, 1, none⟩ = _; rw [cell_of_row _ _ 1 _ _ _ Nb0x1.out]; rfl, by show x1.cell? ⟨w.heap.size + 1, 0, none⟩ = _; rw [cell_of_row _ _ 0 _ _ _ Nb1x1.out]; rfl, by show x1.cell? ⟨w.heap.size + 1, 1, none⟩ = _; rw [cell_of_row _ _ 1 _ _ _ Nb1x1.out]; rfl, by show x1.cell? ⟨w.heap.size + 1 + 1, 0, none⟩ = _; rw [cell_of_row _ _ 0 _ _ _ Nb2x1.out]; rfl, by show x1.cell? ⟨w.heap.size + 1 + 1, 1, none⟩ = _; rw [cell_of_row _ _ 1 _ _ _ Nb2x1.out]; rfl⟩
    clear hK K
    try simp only [Act.put, List.setIfInBounds_toArray, List.set_cons_zero, List.set_cons_succ]
    refine wpAnyH_ready (rs := [7]) (by kernel_rfl) (by simp) ?_
    refine AllReadyH.cons rfl (fun K hK => ?_) AllReadyH.nil
    go_simp
    refine (HRO.out _ Kx1.out).mono ?_
    rintro e x2 ⟨b0, p1, n1, k1, p2, n2, k2, b3, p4, n4, k4, b5, b6, rfl, hg, hb⟩
    have Zx2 : Hid (x1.heap.size ≤ x2.heap.size) := hb.size
    have Kx2 : Hid (Below w.heap.size w x2) := Kx1.out.trans (hb.mono Kx1.out.size)
    have Nb0x2 : Hid (x2.heap[w.heap.size]? = some (.cells #[.slice a l cap, .slice a' l' cap'] 40 (0, 0))) := (hb.block _ (Array.getElem?_eq_some_iff.1 Nb0x1.out).1).trans Nb0x1.out
    have Nb1x2 : Hid (x2.heap[w.heap.size + 1]? = some (.cells #[.slice a0 xa.length cap0, .slice a1 ea.length cap1] 43 (0, 0))) := (hb.block _ (Array.getElem?_eq_some_iff.1 Nb1x1.out).1).trans Nb1x1.out
    have Nb2x2 : Hid (x2.heap[w.heap.size + 1 + 1]? = some (.cells #[.slice a2 xb.length cap2, .slice a3 eb.length cap3] 43 (0, 0))) := (hb.block _ (Array.getElem?_eq_some_iff.1 Nb2x1.out).1).trans Nb2x1.out
    have Nb3x2 : Hid (x2.heap[w.heap.size + 1 + 1 + 1]? = some (.cells #[.int .i64 0, .slice none 0 0, .slice none 0 0, .bool false, .slice none 0 0, .string ⟨#[]⟩, .string ⟨#[]⟩] 37 (0, 0))) := (hb.block _ (Array.getElem?_eq_some_iff.1 Nb3x1.out).1).trans Nb3x1.out
    have Ox2 : Hid (RelOwn x1.heap.size x2.heap.size x2 (.agg #[.int .i64 b0, .slice p1 n1 k1, .slice p2 n2 k2, .bool b3, .slice p4 n4 k4, .string b5, .string b6]) L) := hg
    clear hb
    refine hK.out _ _ ?_ (fun hHeld => ?_)
    · exact ⟨by show x2.cell? ⟨w.heap.size, 0, none⟩ = _; rw [cell_of_row _ _ 0 _ _ _ Nb0x2.out]; rfl, by show x2.cell? ⟨w.heap.size, 1, none⟩ = _; rw [cell_of_row _ _ 1 _ _ _ Nb0x2.out]; rfl, by show x2.cell? ⟨w.heap.size + 1, 0, none⟩ = _; rw [cell_of_row _ _ 0 _ _ _ Nb1x2.out]; rfl, by show x2.cell? ⟨w.heap.size + 1, 1, none⟩ = _; rw [cell_of_row _ _ 1 _ _ _ Nb1x2.out]; rfl, by show x2.cell? ⟨w.heap.size + 1 + 1, 0, none⟩ = _; rw [cell_of_row _ _ 0 _ _ _ Nb2x2.out]; rfl, by show x2.cell? ⟨w.heap.size + 1 + 1, 1, none⟩ = _; rw [cell_of_row _ _ 1 _ _ _ Nb2x2.out]; rfl⟩
    clear hK K
    try simp only [Act.put, List.setIfInBounds_toArray, List.set_cons_zero, List.set_cons_succ]
    refine tk 8 22 (.agg #[.int .i64 b0, .slice p1 n1 k1, .slice p2 n2 k2, .bool b3, .slice p4 n4 k4, .string b5, .string b6]) ?_
    simp only [Act.put, List.setIfInBounds_toArray, List.set_cons_zero, List.set_cons_succ]
    refine tk 9 23 (.bool b) ?_
    simp only [Act.put, List.setIfInBounds_toArray, List.set_cons_zero, List.set_cons_succ]
    refine wpAnyH_ready (rs := [10]) (by kernel_rfl) (by simp) ?_
    refine AllReadyH.cons rfl (fun K hK => ?_) AllReadyH.nil
    refine step_store_row rfl 37 (.tmp 8) (.tmp 22) rfl (w.heap.size + 1 + 1 + 1) #[.int .i64 b0, .slice p1 n1 k1, .slice p2 n2 k2, .bool b3, .slice p4 n4 k4, .string b5, .string b6] rfl rfl 37 _ Nb3x2.out (by kernel_rfl) rfl (by simp [Value.oneCell']) rfl ?_
    obtain ⟨x3, hx⟩ : ∃ X, x2.setRow (w.heap.size + 1 + 1 + 1) #[.int .i64 b0, .slice p1 n1 k1, .slice p2 n2 k2, .bool b3, .slice p4 n4 k4, .string b5, .string b6] = X := ⟨_, rfl⟩
    have Kx3 : Hid (Below w.heap.size w x3) := by show Below _ _ _; rw [← hx]; exact below_setRow Kx2.out HQb3.out _
    have Zx3 : Hid (x3.heap.size = x2.heap.size) := by show _ = _; rw [← hx]; simp
    have zx0 := Zx0.out
    have zx1 := Zx1.out
    have zx2 := Zx2.out
    have Ox3 : Hid (RelOwn x1.heap.size x2.heap.size x3 (.agg #[.int .i64 b0, .slice p1 n1 k1, .slice p2 n2 k2, .bool b3, .slice p4 n4 k4, .string b5, .string b6]) L) := by have h9 := Ox2.out; simp only [Hid] at h9 ⊢; rw [← hx]; exact relOwn_setRow486 h9 (by omega) _
    have Nb3x3 : Hid (x3.heap[w.heap.size + 1 + 1 + 1]? = some (.cells #[.int .i64 b0, .slice p1 n1 k1, .slice p2 n2 k2, .bool b3, .slice p4 n4 k4, .string b5, .string b6] 37 (0, 0))) := by show _ = _; rw [← hx]; exact setRow_heap _ _ _ _ _ _ Nb3x2.out
    have Nb0x3 : Hid (x3.heap[w.heap.size]? = some (.cells #[.slice a l cap, .slice a' l' cap'] 40 (0, 0))) := by show _ = _; rw [← hx]; exact (setRow_other _ _ _ _ (by omega)).trans Nb0x2.out
    have Nb1x3 : Hid (x3.heap[w.heap.size + 1]? = some (.cells #[.slice a0 xa.length cap0, .slice a1 ea.length cap1] 43 (0, 0))) := by show _ = _; rw [← hx]; exact (setRow_other _ _ _ _ (by omega)).trans Nb1x2.out
    have Nb2x3 : Hid (x3.heap[w.heap.size + 1 + 1]? = some (.cells #[.slice a2 xb.length cap2, .slice a3 eb.length cap3] 43 (0, 0))) := by show _ = _; rw [← hx]; exact (setRow_other _ _ _ _ (by omega)).trans Nb2x2.out
    clear zx0
    clear zx1
    clear zx2
    rw [hx]
    clear hx
    refine hK.out _ _ ?_ (fun hHeld => ?_)
    · exact ⟨by show x3.cell? ⟨w.heap.size, 0, none⟩ = _; rw [cell_of_row _ _ 0 _ _ _ Nb0x3.out]; rfl, by show x3.cell? ⟨w.heap.size, 1, none⟩ = _; rw [cell_of_row _ _ 1 _ _ _ Nb0x3.out]; rfl, by show x3.cell? ⟨w.heap.size + 1, 0, none⟩ = _; rw [cell_of_row _ _ 0 _ _ _ Nb1x3.out]; rfl, by show x3.cell? ⟨w.heap.size + 1, 1, none⟩ = _; rw [cell_of_row _ _ 1 _ _ _ Nb1x3.out]; rfl, by show x3.cell? ⟨w.heap.size + 1 + 1, 0, none⟩ = _; rw [cell_of_row _ _ 0 _ _ _ Nb2x3.out]; rfl, by show x3.cell? ⟨w.heap.size + 1 + 1, 1, none⟩ = _; rw [cell_of_row _ _ 1 _ _ _ Nb2x3.out]; rfl⟩
    clear hK K
    try simp only [Act.put, List.setIfInBounds_toArray, List.set_cons_zero, List.set_cons_succ]
    refine tk 11 9 (.bool b) ?_
    simp only [Act.put, List.setIfInBounds_toArray, List.set_cons_zero, List.set_cons_succ]
    refine wpAnyH_done (by kernel_rfl) ?_ _
    have r0 : x3.cell? ⟨w.heap.size + 1 + 1 + 1, 0, none⟩ = some (.int .i64 b0) := by rw [cell_of_row _ _ 0 _ _ _ Nb3x3.out]; rfl
    have r1 : x3.cell? ⟨w.heap.size + 1 + 1 + 1, 1, none⟩ = some (.slice p1 n1 k1) := by rw [cell_of_row _ _ 1 _ _ _ Nb3x3.out]; rfl
    have r2 : x3.cell? ⟨w.heap.size + 1 + 1 + 1, 2, none⟩ = some (.slice p2 n2 k2) := by rw [cell_of_row _ _ 2 _ _ _ Nb3x3.out]; rfl
    have r3 : x3.cell? ⟨w.heap.size + 1 + 1 + 1, 3, none⟩ = some (.bool b3) := by rw [cell_of_row _ _ 3 _ _ _ Nb3x3.out]; rfl
    have r4 : x3.cell? ⟨w.heap.size + 1 + 1 + 1, 4, none⟩ = some (.slice p4 n4 k4) := by rw [cell_of_row _ _ 4 _ _ _ Nb3x3.out]; rfl
    have r5 : x3.cell? ⟨w.heap.size + 1 + 1 + 1, 5, none⟩ = some (.string b5) := by rw [cell_of_row _ _ 5 _ _ _ Nb3x3.out]; rfl
    have r6 : x3.cell? ⟨w.heap.size + 1 + 1 + 1, 6, none⟩ = some (.string b6) := by rw [cell_of_row _ _ 6 _ _ _ Nb3x3.out]; rfl
    have zx0 := Zx0.out
    have zx1 := Zx1.out
    have zx2 := Zx2.out
    have zx3 := Zx3.out
    go_wp2
    refine bodyPost_ret (v := .tuple #[.agg #[.int .i64 b0, .slice p1 n1 k1, .slice p2 n2 k2, .bool b3, .slice p4 n4 k4, .string b5, .string b6], .bool b]) (by simp [results, Tryz.results7, go_sem, r0, r1, r2, r3, r4, r5, r6]) rfl ⟨_, by rw [HM.out.1], ?_, Kx3.out⟩
    rw [HM.out.2]
    exact Ox3.out.weak (by omega) (by omega)
end Go.Proofs.YtkepmjebnkcbgaaGreatDoor
