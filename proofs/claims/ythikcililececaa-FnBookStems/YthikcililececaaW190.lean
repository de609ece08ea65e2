/-
  FnBookWords.
-/
import Derived.Test.YthikcililececaaW175
import Derived.Test.YthikcililececaaW157
import Derived.Test.YthikcililececaaW170
import Derived.Test.YthikcililececaaW100
import Derived.Test.YthikcililececaaW133
namespace Go.Proofs.Ythikcililececaa
open Go.RowKit
set_option linter.unusedVariables false
theorem memT_hasW2 (xs : List ByteArray) (s : ByteArray) : memT xs s = hasW xs s := by
  rw [Bool.eq_iff_iff, memT_iff, hasW_iff]
theorem asc_step {l : List ByteArray} (h : Asc l) {x y : ByteArray} {k : Nat} (hx : l[k]? = some x) (hy : l[k + 1]? = some y) : Op.bytesLess x.toList y.toList = true := by
  obtain ⟨h1, e1⟩ := List.getElem?_eq_some_iff.1 hx
  obtain ⟨h2, e2⟩ := List.getElem?_eq_some_iff.1 hy
  have := List.pairwise_iff_getElem.1 h k (k + 1) h1 h2 (by omega)
  rw [e1, e2] at this
  exact this
theorem TextsAt.drew1 {w : World} {v : Value} {xs : List ByteArray} (h : TextsAt w v xs) : TextsAt w.drew v xs := h.below (Below.refl _ _).drew
set_option maxRecDepth 100000 in
set_option maxHeartbeats 2000000 in
theorem fnBookWords_walk (a : Option Addr) (len cap : Nat) (zs : List Int) (w : World) (h : IsRow .u8 w a len cap zs) :
    Calls Try.prog 4 #[.slice a len cap] w fun e w' => e = .returned (.bool true) ∧ Below w.heap.size w w' := by
  by_cases h1 : (1048576 : Int) < (len : Int)
  · clear h
    go_enter Try.func4, Try.ntmps4
    go_wp2
    go_ret
    exact ⟨rfl, Below.refl _ _⟩
  have HI : Hid (IsRow .u8 w a len cap zs) := h
  clear h
  go_enter Try.func4, Try.ntmps4
  go_wp2_with fail
  refine (drawBookWords_any w a len cap zs HI.out).mono ?_
  rintro e w1 ⟨va, ve, xs, es, rfl, hva, hve, hx5, he25, -, hes, hb1⟩
  obtain ⟨b0, c0, rfl, -⟩ := hva.form
  obtain ⟨b1, c1, rfl, -⟩ := hve.form
  obtain ⟨w2, hw2⟩ : ∃ x, w1.alloc (.cells #[.slice b0 xs.length c0, .slice b1 es.length c1] 40) = x := ⟨_, rfl⟩
  have hb12 : Below w1.heap.size w1 w2 := by rw [← hw2]; exact (Below.refl w1.heap.size w1).alloc (Nat.le_refl _) _
  have HA : Hid (AffsAt w2 (.slice b0 xs.length c0) xs) := hva.below hb12
  have HE : Hid (EntsAt w2 (.slice b1 es.length c1) es) := hve.below hb12
  have HES : Hid (∀ e ∈ es, e.1.size ≤ 20 ∧ e.2.size ≤ 20) := hes
  have HB2 : Hid (Below w.heap.size w w2) := hb1.trans (hb12.mono hb1.size)
  have hz2 : w1.heap.size < w2.heap.size := by rw [← hw2]; simp
  have hbx : w2.heap[w1.heap.size]? = some (.cells #[.slice b0 xs.length c0, .slice b1 es.length c1] 40 (0, 0)) := by rw [← hw2]; exact heap_alloc_last w1 _
  have HX : Hid (∀ w', Below w2.heap.size w2 w' → w'.cell? ⟨w1.heap.size, 0, none⟩ = some (.slice b0 xs.length c0) ∧ w'.cell? ⟨w1.heap.size, 1, none⟩ = some (.slice b1 es.length c1)) := fun w' hb => ⟨by rw [cell_of_row _ _ 0 _ _ _ ((hb.block _ hz2).trans hbx)]; rfl, by rw [cell_of_row _ _ 1 _ _ _ ((hb.block _ hz2).trans hbx)]; rfl⟩
  clear hva hve hb1 hb12 hbx hes
  obtain ⟨x0, x1⟩ := HX.out w2 (Below.refl _ _)
  go_wp2_with fail
  clear hw2
  refine (implBookWords_any w2 _ _ xs es HA.out HE.out).mono ?_
  rintro e w3 ⟨v3, rfl, ht3, hb3⟩
  have HB3 : Hid (Below w2.heap.size w2 w3) := hb3
  have hws := (wordsT_small xs es).1
  obtain ⟨W, hW⟩ : ∃ W, wordsT xs es = W := ⟨_, rfl⟩
  rw [hW] at ht3 hws
  have HT3 : Hid (TextsAt w3 v3 W) := ht3.at
  obtain ⟨a3, c3, rfl, hc3, -⟩ := ht3.at.form
  clear hb3 x0 x1 ht3
  obtain ⟨x0, x1⟩ := HX.out w3 HB3.out
  have hz3 : w1.heap.size < w3.heap.size := Nat.lt_of_lt_of_le hz2 HB3.out.size
  have HD3 : Hid (Below w2.heap.size w2 w3.drew) := HB3.out.drew
  have HWW : Hid (wordsT xs es = W) := hW
  clear hW
  cases hbk : bookT xs es with
  | false =>
    have HC3 : Hid (Below w3.heap.size w3 w3) := Below.refl _ _
    have HD3 : Hid (Below w2.heap.size w2 w3.drew) := HB3.out.drew
    have HE3d : Hid (Below w3.heap.size w3 w3.drew) := HC3.out.drew
    go_wp2_with fail
    go_region_held3 (fun w' => w'.cell? ⟨w1.heap.size, 0, none⟩ = some (.slice b0 xs.length c0) ∧ w'.cell? ⟨w1.heap.size, 1, none⟩ = some (.slice b1 es.length c1)) (go_keep)
      (first
        | (have q := HB7; clear q; go_at_call 18; refine (specBookOk_any _ _ _ xs es (HA.out.below HB7.out) (HE.out.below HB7.out)).mono ?_; rintro e w8 ⟨rfl, hb8⟩; rw [hbk]; have HB8 : Hid (Below w2.heap.size w2 w8) := HB7.out.trans (hb8.mono HB7.out.size); have HC8 : Hid (Below w3.heap.size w3 w8) := HC7.out.trans (hb8.mono HC7.out.size); clear hb8 x0 x1; obtain ⟨x0, x1⟩ := HX.out w8 HB8.out)
        | (have q := HB6; clear q; go_at_call 18; refine (specBookOk_any _ _ _ xs es (HA.out.below HB6.out) (HE.out.below HB6.out)).mono ?_; rintro e w7 ⟨rfl, hb7⟩; rw [hbk]; have HB7 : Hid (Below w2.heap.size w2 w7) := HB6.out.trans (hb7.mono HB6.out.size); have HC7 : Hid (Below w3.heap.size w3 w7) := HC6.out.trans (hb7.mono HC6.out.size); clear hb7 x0 x1; obtain ⟨x0, x1⟩ := HX.out w7 HB7.out)
        | (have q := HB5; clear q; go_at_call 17; refine (implBookOk_any _ _ _ xs es (HA.out.below HB5.out) (HE.out.below HB5.out)).mono ?_; rintro e w6 ⟨rfl, hb6⟩; rw [hbk]; have HB6 : Hid (Below w2.heap.size w2 w6) := HB5.out.trans (hb6.mono HB5.out.size); have HC6 : Hid (Below w3.heap.size w3 w6) := HC5.out.trans (hb6.mono HC5.out.size); clear hb6 x0 x1; obtain ⟨x0, x1⟩ := HX.out w6 HB6.out)
        | (have q := HB4; clear q; go_at_call 9; refine (mdTexts_same _ _ _ W (HT3.out.below HC4.out) HT4.out).mono ?_; rintro e w5 ⟨rfl, hb5⟩; have HB5 : Hid (Below w2.heap.size w2 w5) := HB4.out.trans (hb5.mono HB4.out.size); have HC5 : Hid (Below w3.heap.size w3 w5) := HC4.out.trans (hb5.mono HC4.out.size); clear hb5 x0 x1; obtain ⟨x0, x1⟩ := HX.out w5 HB5.out)
        | (go_at_call 16; refine (specBookWords_any _ _ _ xs es (HA.out.below HD3.out) (HE.out.below HD3.out)).mono ?_; rintro e w4 ⟨v4, rfl, ht4, hb4⟩; rw [HWW.out] at ht4; have HB4 : Hid (Below w2.heap.size w2 w4) := HD3.out.trans (hb4.mono HD3.out.size); have HC4 : Hid (Below w3.heap.size w3 w4) := HE3d.out.trans (hb4.mono HE3d.out.size); clear hb4 x0 x1; obtain ⟨x0, x1⟩ := HX.out w4 HB4.out; obtain ⟨a4, c4, rfl, -⟩ := ht4.form; have HT4 : Hid (TextsAt w4 (.slice a4 W.length c4) W) := ht4; clear ht4))
    have HD8 : Hid (Below w2.heap.size w2 w8.drew) := HB8.out.drew
    have HE8d : Hid (Below w3.heap.size w3 w8.drew) := HC8.out.drew
    go_wp2_with fail
    go_region_held3 (fun w' => w'.cell? ⟨w1.heap.size, 0, none⟩ = some (.slice b0 xs.length c0) ∧ w'.cell? ⟨w1.heap.size, 1, none⟩ = some (.slice b1 es.length c1)) (go_keep)
      (first
        | (have q := HB11; clear q; go_at_call 18; refine (specBookOk_any _ _ _ xs es (HA.out.below HB11.out) (HE.out.below HB11.out)).mono ?_; rintro e w12 ⟨rfl, hb12⟩; rw [hbk]; have HB12 : Hid (Below w2.heap.size w2 w12) := HB11.out.trans (hb12.mono HB11.out.size); have HC12 : Hid (Below w3.heap.size w3 w12) := HC11.out.trans (hb12.mono HC11.out.size); clear hb12 x0 x1; obtain ⟨x0, x1⟩ := HX.out w12 HB12.out)
        | (have q := HB10; clear q; go_at_call 17; refine (implBookOk_any _ _ _ xs es (HA.out.below HB10.out) (HE.out.below HB10.out)).mono ?_; rintro e w11 ⟨rfl, hb11⟩; rw [hbk]; have HB11 : Hid (Below w2.heap.size w2 w11) := HB10.out.trans (hb11.mono HB10.out.size); have HC11 : Hid (Below w3.heap.size w3 w11) := HC10.out.trans (hb11.mono HC10.out.size); clear hb11 x0 x1; obtain ⟨x0, x1⟩ := HX.out w11 HB11.out)
        | (have q := HB9; clear q; go_at_call 9; refine (mdTexts_same _ _ _ W (HT3.out.below HC9.out) HT9.out).mono ?_; rintro e w10 ⟨rfl, hb10⟩; have HB10 : Hid (Below w2.heap.size w2 w10) := HB9.out.trans (hb10.mono HB9.out.size); have HC10 : Hid (Below w3.heap.size w3 w10) := HC9.out.trans (hb10.mono HC9.out.size); clear hb10 x0 x1; obtain ⟨x0, x1⟩ := HX.out w10 HB10.out)
        | (go_at_call 16; refine (specBookWords_any _ _ _ xs es (HA.out.below HD8.out) (HE.out.below HD8.out)).mono ?_; rintro e w9 ⟨v9, rfl, ht9, hb9⟩; rw [HWW.out] at ht9; have HB9 : Hid (Below w2.heap.size w2 w9) := HD8.out.trans (hb9.mono HD8.out.size); have HC9 : Hid (Below w3.heap.size w3 w9) := HE8d.out.trans (hb9.mono HE8d.out.size); clear hb9 x0 x1; obtain ⟨x0, x1⟩ := HX.out w9 HB9.out; obtain ⟨a9, c9, rfl, -⟩ := ht9.form; have HT9 : Hid (TextsAt w9 (.slice a9 W.length c9) W) := ht9; clear ht9))
    go_wp2
    go_ret
    exact ⟨by simp, HB2.out.trans (HB12.out.mono HB2.out.size)⟩
  | true =>
    have HC3 : Hid (Below w3.heap.size w3 w3) := Below.refl _ _
    have HBK : Hid (bookT xs es = true) := hbk
    have HD3 : Hid (Below w2.heap.size w2 w3.drew) := HB3.out.drew
    have HE3d : Hid (Below w3.heap.size w3 w3.drew) := HC3.out.drew
    go_wp2_with fail
    go_region_held3 (fun w' => w'.cell? ⟨w1.heap.size, 0, none⟩ = some (.slice b0 xs.length c0) ∧ w'.cell? ⟨w1.heap.size, 1, none⟩ = some (.slice b1 es.length c1)) (go_keep)
      (first
        | (have q := HB7; clear q; go_at_call 18; refine (specBookOk_any _ _ _ xs es (HA.out.below HB7.out) (HE.out.below HB7.out)).mono ?_; rintro e w8 ⟨rfl, hb8⟩; rw [hbk]; have HB8 : Hid (Below w2.heap.size w2 w8) := HB7.out.trans (hb8.mono HB7.out.size); have HC8 : Hid (Below w3.heap.size w3 w8) := HC7.out.trans (hb8.mono HC7.out.size); clear hb8 x0 x1; obtain ⟨x0, x1⟩ := HX.out w8 HB8.out)
        | (have q := HB6; clear q; go_at_call 18; refine (specBookOk_any _ _ _ xs es (HA.out.below HB6.out) (HE.out.below HB6.out)).mono ?_; rintro e w7 ⟨rfl, hb7⟩; rw [hbk]; have HB7 : Hid (Below w2.heap.size w2 w7) := HB6.out.trans (hb7.mono HB6.out.size); have HC7 : Hid (Below w3.heap.size w3 w7) := HC6.out.trans (hb7.mono HC6.out.size); clear hb7 x0 x1; obtain ⟨x0, x1⟩ := HX.out w7 HB7.out)
        | (have q := HB5; clear q; go_at_call 17; refine (implBookOk_any _ _ _ xs es (HA.out.below HB5.out) (HE.out.below HB5.out)).mono ?_; rintro e w6 ⟨rfl, hb6⟩; rw [hbk]; have HB6 : Hid (Below w2.heap.size w2 w6) := HB5.out.trans (hb6.mono HB5.out.size); have HC6 : Hid (Below w3.heap.size w3 w6) := HC5.out.trans (hb6.mono HC5.out.size); clear hb6 x0 x1; obtain ⟨x0, x1⟩ := HX.out w6 HB6.out)
        | (have q := HB4; clear q; go_at_call 9; refine (mdTexts_same _ _ _ W (HT3.out.below HC4.out) HT4.out).mono ?_; rintro e w5 ⟨rfl, hb5⟩; have HB5 : Hid (Below w2.heap.size w2 w5) := HB4.out.trans (hb5.mono HB4.out.size); have HC5 : Hid (Below w3.heap.size w3 w5) := HC4.out.trans (hb5.mono HC4.out.size); clear hb5 x0 x1; obtain ⟨x0, x1⟩ := HX.out w5 HB5.out)
        | (go_at_call 16; refine (specBookWords_any _ _ _ xs es (HA.out.below HD3.out) (HE.out.below HD3.out)).mono ?_; rintro e w4 ⟨v4, rfl, ht4, hb4⟩; rw [HWW.out] at ht4; have HB4 : Hid (Below w2.heap.size w2 w4) := HD3.out.trans (hb4.mono HD3.out.size); have HC4 : Hid (Below w3.heap.size w3 w4) := HE3d.out.trans (hb4.mono HE3d.out.size); clear hb4 x0 x1; obtain ⟨x0, x1⟩ := HX.out w4 HB4.out; obtain ⟨a4, c4, rfl, -⟩ := ht4.form; have HT4 : Hid (TextsAt w4 (.slice a4 W.length c4) W) := ht4; clear ht4))
    clear hbk
    have HWT : Hid (wordsTo xs es es.length = W) := by have q := HWW.out; unfold wordsT at q; rw [if_pos HBK.out] at q; exact q
    have HL : Hid (W.length ≤ sumTo xs es es.length) := by show _ ≤ _; rw [← HWT.out]; exact words_sum xs es _
    have HAS : Hid (Asc W) := by rw [← HWT.out]; exact wordsTo_asc xs es _
    have hz8 : w1.heap.size < w8.heap.size := Nat.lt_of_lt_of_le hz2 HB8.out.size
    clear x0 x1
    go_wp2
    go_loopw [5, 6] (fun n i wr => ∃ (k : Nat), k ≤ es.length ∧ n = .int .i64 (sumTo xs es k) ∧ i = .int .i64 k ∧ Below w8.heap.size w8 wr) (fun _ i _ => es.length - (intOf i).toNat)
    case atStart => exact ⟨0, Nat.zero_le _, rfl, rfl, Below.refl _ _⟩
    case round =>
      obtain ⟨k, hk, rfl, rfl, hb⟩ := hrel
      have HB : Hid (Below w2.heap.size w2 wr) := HB8.out.trans (hb.mono HB8.out.size)
      have HB8r : Hid (Below w8.heap.size w8 wr) := hb
      clear hb
      obtain ⟨x0, x1⟩ := HX.out wr HB.out
      have hzw : w1.heap.size < wr.heap.size := Nat.lt_of_lt_of_le hz2 HB.out.size
      have hsk := sumTo_le xs es k
      by_cases hlt : k < es.length
      · obtain ⟨b, off, cap2, x, hv, hbl, hx, hxf, e0, e1⟩ := (HE.out.below HB.out).at hlt
        cases hv
        obtain ⟨st, fl⟩ := x
        have HXk : Hid (es[k]? = some (st, fl)) := hx
        simp only at e0 e1 hxf
        have HXF : Hid (st.size ≤ maxLen ∧ fl.size ≤ maxLen) := hxf
        have HAr : Hid (AffsAt wr (.slice b0 xs.length c0) xs) := HA.out.below HB.out
        have i0 : (0 : Int) ≤ (k : Int) := by omega
        have i1 : (k : Int) < (es.length : Int) := by omega
        clear hx hxf
        go_wp2_with fail
        go_region_held3 (fun w' => w'.cell? ⟨w1.heap.size, 0, none⟩ = some (.slice b0 xs.length c0) ∧ w'.cell? ⟨w1.heap.size, 1, none⟩ = some (.slice (some ⟨b, off, none⟩) es.length c1) ∧ w'.cell? ⟨b, off + k * 2, none⟩ = some (.string st) ∧ w'.cell? ⟨b, off + k * 2 + 1, none⟩ = some (.string fl)) (go_keep)
          ((go_at_call 8; refine (implForms_any _ _ xs st fl (HAr.out.below (Below.refl _ _).drew) HXF.out.1 HXF.out.2).mono ?_; rintro e w9 ⟨vl, rfl, htl, hb9⟩; have HB9 : Hid (Below wr.heap.size wr w9) := (Below.drew (Below.refl wr.heap.size wr)).trans hb9; have HTL : Hid (TextsAt w9 vl (formsT xs st fl)) := htl.at; have k0 := (HB9.out.cell (p := ⟨w1.heap.size, 0, none⟩) hzw).trans x0; have k1 := (HB9.out.cell (p := ⟨w1.heap.size, 1, none⟩) hzw).trans x1; have k2 := (HB9.out.cell (p := ⟨b, off + k * 2, none⟩) hbl).trans e0; have k3 := (HB9.out.cell (p := ⟨b, off + k * 2 + 1, none⟩) hbl).trans e1; clear hb9 x0 x1 e0 e1; obtain ⟨gl, cl, rfl, -⟩ := htl.at.form; clear htl))
        obtain ⟨fs, hfs⟩ : ∃ fs, formsT xs st fl = fs := ⟨_, rfl⟩
        have HFS : Hid (formsT xs st fl = fs) := hfs
        have HSN : Hid (sumTo xs es (k + 1) = sumTo xs es k + fs.length) := by show _ = _; rw [sumTo_next HXk.out, hfs]
        have hsk1 := sumTo_le xs es (k + 1)
        rw [HSN.out] at hsk1
        rw [hfs] at HTL ⊢
        clear hfs
        obtain ⟨sk, hsk'⟩ : ∃ sk, sumTo xs es k = sk := ⟨_, rfl⟩
        rw [hsk'] at HSN hsk hsk1 ⊢
        clear hsk'
        go_wp2
        go_loopw [8] (fun i wi => ∃ (j : Nat), j ≤ fs.length ∧ i = .int .i64 j ∧ Below w9.heap.size w9 wi) (fun i _ => fs.length - (intOf i).toNat)
        case atStart => exact ⟨0, Nat.zero_le _, rfl, Below.refl _ _⟩
        case round =>
          rename World => wi
          obtain ⟨j, hj, rfl, hb⟩ := hrel
          have HBi : Hid (Below w9.heap.size w9 wi) := hb
          clear hb
          by_cases hlj : j < fs.length
          · obtain ⟨b', off', cap3, s, hv', _, hs, _, d2⟩ := (HTL.out.below HBi.out).at hlj
            cases hv'
            have HM : Hid (memT W s = true) := by
              show _ = _
              rw [memT_hasW2, ← HWW.out]
              exact form_word HBK.out HXk.out (by rw [HFS.out]; exact List.mem_of_getElem? hs)
            have HTi : Hid (TextsAt wi (.slice a3 W.length c3) W) := (HT3.out.below HC8.out).below (HB8r.out.trans ((HB9.out.trans (HBi.out.mono HB9.out.size)).mono HB8r.out.size))
            clear hs
            go_wp2_with fail
            refine (mdHas_any _ _ W s HTi.out).mono ?_
            rintro e w10 ⟨rfl, hb10⟩
            have HB10 : Hid (Below w9.heap.size w9 w10) := HBi.out.trans (hb10.mono HBi.out.size)
            clear hb10 d2
            rw [HM.out]
            go_wp2
            go_roundw
            case rel => exact ⟨j + 1, by omega, by go_num, HB10.out⟩
            case measure => simp [intOf]; omega
          · have hje : j = fs.length := by omega
            subst hje
            go_wp2
            go_roundw
            case rel => exact ⟨k + 1, by omega, by rw [HSN.out]; go_num, by go_num, HB8r.out.trans ((HB9.out.trans (HBi.out.mono HB9.out.size)).mono HB8r.out.size)⟩
            case measure => simp [intOf]; omega
      · have hke : k = es.length := by omega
        subst hke
        have HTr : Hid (TextsAt wr (.slice a3 W.length c3) W) := (HT3.out.below HC8.out).below HB8r.out
        have hL := HL.out
        obtain ⟨sk, hsk'⟩ : ∃ sk, sumTo xs es es.length = sk := ⟨_, rfl⟩
        rw [hsk'] at hL hsk ⊢
        clear hsk'
        go_wp2
        go_loopw [9] (fun i wi => ∃ (j : Nat), 1 ≤ j ∧ i = .int .i64 j ∧ j ≤ W.length + 1 ∧ TextsAt wi (.slice a3 W.length c3) W ∧ Below wr.heap.size wr wi) (fun i _ => W.length + 1 - (intOf i).toNat)
        case atStart => exact ⟨1, by omega, rfl, by omega, HTr.out, Below.refl _ _⟩
        case round =>
          rename World => wi
          obtain ⟨j, hj1, rfl, hj2, hti, hb⟩ := hrel
          have HBi : Hid (Below wr.heap.size wr wi) := hb
          have HTi : Hid (TextsAt wi (.slice a3 W.length c3) W) := hti
          clear hb hti
          by_cases hlj : j < W.length
          · obtain ⟨m, rfl⟩ : ∃ m, j = m + 1 := ⟨j - 1, by omega⟩
            obtain ⟨b, off, cap2, x, hv, _, hx, _, y1⟩ := HTi.out.at (k := m) (by omega)
            cases hv
            obtain ⟨b', off', cap3, y, hv', _, hy, _, y2⟩ := HTi.out.at hlj
            cases hv'
            have hxy := asc_step HAS.out hx hy
            clear hx hy
            go_wp2_with fail
            go_region
            all_goals
              go_wp2
              go_roundw
              case rel => exact ⟨m + 1 + 1, by omega, by go_num, by omega, HTi.out.drew1, HBi.out.drew⟩
              case measure => simp [intOf]; omega
          · have hle : (W.length : Int) ≤ (sk : Int) := by omega
            go_wp2
            go_ret
            exact ⟨by simp <;> omega, HB2.out.trans ((HB.out.trans (HBi.out.mono HB.out.size)).mono HB2.out.size)⟩
end Go.Proofs.Ythikcililececaa
