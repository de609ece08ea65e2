/-
  FnBookWords.
-/
import Derived.Test.YthikcililececaaGW177
import Derived.Test.YthikcililececaaW157
import Derived.Test.YthikcililececaaGW170
import Derived.Test.YthikcililececaaGW92
import Derived.Test.YthikcililececaaW133
import Derived.Test.YthikcililececaaW155
namespace Go.Proofs.Ythikcililececaa
open Go.RowKit
set_option linter.unusedVariables false
theorem memT_hasW2 (xs : List ByteArray) (s : ByteArray) : memT xs s = hasW xs s := by
  rw [Bool.eq_iff_iff, memT_iff, hasW_iff]
theorem asc_step {l : List ByteArray} (h : Asc l) {x y : ByteArray} {k : Nat} (hx : l[k]? = some x) (hy : l[k + 1]? = some y) : Op.bytesLess x.toList y.toList = true := by
  obtain ⟨h1, e1⟩ := List.getElem?_eq_some_iff.1 hx
  obtain ⟨h2, e2⟩ := List.getElem?_eq_some_iff.1 hy
  have := List.pairwise_iff_getElem.1 h k (k + 1) h1 h2 (by omega)
  rw [e1, e2] at this
  exact this
theorem TextsAt.drew1 {w : World} {v : Value} {xs : List ByteArray} (h : TextsAt w v xs) : TextsAt w.drew v xs := h.below (Below.refl _ _).drew
set_option maxRecDepth 100000 in
set_option maxHeartbeats 2000000 in
theorem fnBookWords_walk (a : Option Addr) (len cap : Nat) (zs : List Int) (w : World) (h : IsRow .u8 w a len cap zs) :
    Calls Try.prog 4 #[.slice a len cap] w fun e w' => e = .returned (.bool true) ∧ Below w.heap.size w w' := by
  by_cases h1 : (1048576 : Int) < (len : Int)
  · clear h
    go_enter Try.func4, Try.ntmps4
    go_wp2
    go_ret
    exact ⟨rfl, Below.refl _ _⟩
  have HI : Hid (IsRow .u8 w a len cap zs) := h
  clear h
  go_enter Try.func4, Try.ntmps4
  go_wp2_with fail
  refine (drawBookWords_any w a len cap zs HI.out).mono ?_
  rintro e w1 ⟨va, ve, xs, es, rfl, hva, hve, hx5, he25, -, hes, hb1⟩
  obtain ⟨b0, c0, rfl, -⟩ := hva.form
  obtain ⟨b1, c1, rfl, -⟩ := hve.form
  obtain ⟨w2, hw2⟩ : ∃ x, w1.alloc (.cells #[.slice b0 xs.length c0, .slice b1 es.length c1] 40) = x := ⟨_, rfl⟩
  have hb12 : Below w1.heap.size w1 w2 := by rw [← hw2]; exact (Below.refl w1.heap.size w1).alloc (Nat.le_refl _) _
  have HA : Hid (AffsAt w2 (.slice b0 xs.length c0) xs) := hva.below hb12
  have HE : Hid (EntsAt w2 (.slice b1 es.length c1) es) := hve.below hb12
  have HES : Hid (∀ e ∈ es, e.1.size ≤ 20 ∧ e.2.size ≤ 20) := hes
  have HB2 : Hid (Below w.heap.size w w2) := hb1.trans (hb12.mono hb1.size)
  have hz2 : w1.heap.size < w2.heap.size := by rw [← hw2]; simp
  have hbx : w2.heap[w1.heap.size]? = some (.cells #[.slice b0 xs.length c0, .slice b1 es.length c1] 40 (0, 0)) := by rw [← hw2]; exact heap_alloc_last w1 _
  have HX : Hid (∀ w', Below w2.heap.size w2 w' → w'.cell? ⟨w1.heap.size, 0, none⟩ = some (.slice b0 xs.length c0) ∧ w'.cell? ⟨w1.heap.size, 1, none⟩ = some (.slice b1 es.length c1)) := fun w' hb => ⟨by rw [cell_of_row _ _ 0 _ _ _ ((hb.block _ hz2).trans hbx)]; rfl, by rw [cell_of_row _ _ 1 _ _ _ ((hb.block _ hz2).trans hbx)]; rfl⟩
  clear hva hve hb1 hb12 hbx hes
  obtain ⟨x0, x1⟩ := HX.out w2 (Below.refl _ _)
  go_wp2_with fail
  clear hw2
  refine (implBookWords_any w2 _ _ xs es HA.out HE.out).mono ?_
  rintro e w3 ⟨v3, rfl, ht3, hb3⟩
  have HB3 : Hid (Below w2.heap.size w2 w3) := hb3
  have hws := (wordsT_small xs es).1
  obtain ⟨W, hW⟩ : ∃ W, wordsT xs es = W := ⟨_, rfl⟩
  rw [hW] at ht3 hws
  have HT3 : Hid (TextsAt w3 v3 W) := ht3.at
  obtain ⟨a3, c3, rfl, hc3, -⟩ := ht3.at.form
  clear hb3 x0 x1 ht3
  obtain ⟨x0, x1⟩ := HX.out w3 HB3.out
  have hz3 : w1.heap.size < w3.heap.size := Nat.lt_of_lt_of_le hz2 HB3.out.size
  have HD3 : Hid (Below w2.heap.size w2 w3.drew) := HB3.out.drew
  have HWW : Hid (wordsT xs es = W) := hW
  clear hW
  cases hbk : bookT xs es with
  | false =>
    have HC3 : Hid (Below w3.heap.size w3 w3) := Below.refl _ _
    have HD3 : Hid (Below w2.heap.size w2 w3.drew) := HB3.out.drew
    have HE3d : Hid (Below w3.heap.size w3 w3.drew) := HC3.out.drew
    go_wp2_with fail
    go_region_held3 (fun w' => w'.cell? ⟨w1.heap.size, 0, none⟩ = some (.slice b0 xs.length c0) ∧ w'.cell? ⟨w1.heap.size, 1, none⟩ = some (.slice b1 es.length c1)) (go_keep)
      (first
        | (have q := HB7; clear q; go_at_call 18; refine (specBookOk_any _ _ _ xs es (HA.out.below HB7.out) (HE.out.below HB7.out)).mono ?_; rintro e w8 ⟨rfl, hb8⟩; rw [hbk]; have HB8 : Hid (Below w2.heap.size w2 w8) := HB7.out.trans (hb8.mono HB7.out.size); have HC8 : Hid (Below w3.heap.size w3 w8) := HC7.out.trans (hb8.mono HC7.out.size); clear hb8 x0 x1; obtain ⟨x0, x1⟩ := HX.out w8 HB8.out)
        | (have q := HB6; clear q; go_at_call 18; refine (specBookOk_any _ _ _ xs es (HA.out.below HB6.out) (HE.out.below HB6.out)).mono ?_; rintro e w7 ⟨rfl, hb7⟩; rw [hbk]; have HB7 : Hid (Below w2.heap.size w2 w7) := HB6.out.trans (hb7.mono HB6.out.size); have HC7 : Hid (Below w3.heap.size w3 w7) := HC6.out.trans (hb7.mono HC6.out.size); clear hb7 x0 x1; obtain ⟨x0, x1⟩ := HX.out w7 HB7.out)
        | (have q := HB5; clear q; go_at_call 17; refine (implBookOk_any _ _ _ xs es (HA.out.below HB5.out) (HE.out.below HB5.out)).mono ?_; rintro e w6 ⟨rfl, hb6⟩; rw [hbk]; have HB6 : Hid (Below w2.heap.size w2 w6) := HB5.out.trans (hb6.mono HB5.out.size); have HC6 : Hid (Below w3.heap.size w3 w6) := HC5.out.trans (hb6.mono HC5.out.size); clear hb6 x0 x1; obtain ⟨x0, x1⟩ := HX.out w6 HB6.out)
        | (have q := HB4; clear q; go_at_call 9; refine (mdTexts_same _ _ _ W (HT3.out.below HC4.out) HT4.out).mono ?_; rintro e w5 ⟨rfl, hb5⟩; have HB5 : Hid (Below w2.heap.size w2 w5) := HB4.out.trans (hb5.mono HB4.out.size); have HC5 : Hid (Below w3.heap.size w3 w5) := HC4.out.trans (hb5.mono HC4.out.size); clear hb5 x0 x1; obtain ⟨x0, x1⟩ := HX.out w5 HB5.out)
        | (go_at_call 16; refine (specBookWords_any _ _ _ xs es (HA.out.below HD3.out) (HE.out.below HD3.out)).mono ?_; rintro e w4 ⟨v4, rfl, ht4, hb4⟩; rw [HWW.out] at ht4; have HB4 : Hid (Below w2.heap.size w2 w4) := HD3.out.trans (hb4.mono HD3.out.size); have HC4 : Hid (Below w3.heap.size w3 w4) := HE3d.out.trans (hb4.mono HE3d.out.size); clear hb4 x0 x1; obtain ⟨x0, x1⟩ := HX.out w4 HB4.out; obtain ⟨a4, c4, rfl, -⟩ := ht4.form; have HT4 : Hid (TextsAt w4 (.slice a4 W.length c4) W) := ht4; clear ht4))
    have HD8 : Hid (Below w2.heap.size w2 w8.drew) := HB8.out.drew
    have HE8d : Hid (Below w3.heap.size w3 w8.drew) := HC8.out.drew
    go_wp2_with fail
    go_region_held3 (fun w' => w'.cell? ⟨w1.heap.size, 0, none⟩ = some (.slice b0 xs.length c0) ∧ w'.cell? ⟨w1.heap.size, 1, none⟩ = some (.slice b1 es.length c1)) (go_keep)
      (first
        | (have q := HB11; clear q; go_at_call 18; refine (specBookOk_any _ _ _ xs es (HA.out.below HB11.out) (HE.out.below HB11.out)).mono ?_; rintro e w12 ⟨rfl, hb12⟩; rw [hbk]; have HB12 : Hid (Below w2.heap.size w2 w12) := HB11.out.trans (hb12.mono HB11.out.size); have HC12 : Hid (Below w3.heap.size w3 w12) := HC11.out.trans (hb12.mono HC11.out.size); clear hb12 x0 x1; obtain ⟨x0, x1⟩ := HX.out w12 HB12.out)
        | (have q := HB10; clear q; go_at_call 17; refine (implBookOk_any _ _ _ xs es (HA.out.below HB10.out) (HE.out.below HB10.out)).mono ?_; rintro e w11 ⟨rfl, hb11⟩; rw [hbk]; have HB11 : Hid (Below w2.heap.size w2 w11) := HB10.out.trans (hb11.mono HB10.out.size); have HC11 : Hid (Below w3.heap.size w3 w11) := HC10.out.trans (hb11.mono HC10.out.size); clear hb11 x0 x1; obtain ⟨x0, x1⟩ := HX.out w11 HB11.out)
        | (have q := HB9; clear q; go_at_call 9; refine (mdTexts_same _ _ _ W (HT3.out.below HC9.out) HT9.out).mono ?_; rintro e w10 ⟨rfl, hb10⟩; have HB10 : Hid (Below w2.heap.size w2 w10) := HB9.out.trans (hb10.mono HB9.out.size); have HC10 : Hid (Below w3.heap.size w3 w10) := HC9.out.trans (hb10.mono HC9.out.size); clear hb10 x0 x1; obtain ⟨x0, x1⟩ := HX.out w10 HB10.out)
        | (go_at_call 16; refine (specBookWords_any _ _ _ xs es (HA.out.below HD8.out) (HE.out.below HD8.out)).mono ?_; rintro e w9 ⟨v9, rfl, ht9, hb9⟩; rw [HWW.out] at ht9; have HB9 : Hid (Below w2.heap.size w2 w9) := HD8.out.trans (hb9.mono HD8.out.size); have HC9 : Hid (Below w3.heap.size w3 w9) := HE8d.out.trans (hb9.mono HE8d.out.size); clear hb9 x0 x1; obtain ⟨x0, x1⟩ := HX.out w9 HB9.out; obtain ⟨a9, c9, rfl, -⟩ := ht9.form; have HT9 : Hid (TextsAt w9 (.slice a9 W.length c9) W) := ht9; clear ht9))
    go_wp2
    go_ret
    exact ⟨by simp, HB2.out.trans (HB12.out.mono HB2.out.size)⟩
  | true =>
    have HC3 : Hid (Below w3.heap.size w3 w3) := Below.refl _ _
    have HBK : Hid (bookT xs es = true) := hbk
    have HD3 : Hid (Below w2.heap.size w2 w3.drew) := HB3.out.drew
    have HE3d : Hid (Below w3.heap.size w3 w3.drew) := HC3.out.drew
    go_wp2_with fail
    go_region_held3 (fun w' => w'.cell? ⟨w1.heap.size, 0, none⟩ = some (.slice b0 xs.length c0) ∧ w'.cell? ⟨w1.heap.size, 1, none⟩ = some (.slice b1 es.length c1)) (go_keep)
      (first
        | (have q := HB7; clear q; go_at_call 18; refine (specBookOk_any _ _ _ xs es (HA.out.below HB7.out) (HE.out.below HB7.out)).mono ?_; rintro e w8 ⟨rfl, hb8⟩; rw [hbk]; have HB8 : Hid (Below w2.heap.size w2 w8) := HB7.out.trans (hb8.mono HB7.out.size); have HC8 : Hid (Below w3.heap.size w3 w8) := HC7.out.trans (hb8.mono HC7.out.size); clear hb8 x0 x1; obtain ⟨x0, x1⟩ := HX.out w8 HB8.out)
        | (have q := HB6; clear q; go_at_call 18; refine (specBookOk_any _ _ _ xs es (HA.out.below HB6.out) (HE.out.below HB6.out)).mono ?_; rintro e w7 ⟨rfl, hb7⟩; rw [hbk]; have HB7 : Hid (Below w2.heap.size w2 w7) := HB6.out.trans (hb7.mono HB6.out.size); have HC7 : Hid (Below w3.heap.size w3 w7) := HC6.out.trans (hb7.mono HC6.out.size); clear hb7 x0 x1; obtain ⟨x0, x1⟩ := HX.out w7 HB7.out)
        | (have q := HB5; clear q; go_at_call 17; refine (implBookOk_any _ _ _ xs es (HA.out.below HB5.out) (HE.out.below HB5.out)).mono ?_; rintro e w6 ⟨rfl, hb6⟩; rw [hbk]; have HB6 : Hid (Below w2.heap.size w2 w6) := HB5.out.trans (hb6.mono HB5.out.size); have HC6 : Hid (Below w3.heap.size w3 w6) := HC5.out.trans (hb6.mono HC5.out.size); clear hb6 x0 x1; obtain ⟨x0, x1⟩ := HX.out w6 HB6.out)
        | (have q := HB4; clear q; go_at_call 9; refine (mdTexts_same _ _ _ W (HT3.out.below HC4.out) HT4.out).mono ?_; rintro e w5 ⟨rfl, hb5⟩; have HB5 : Hid (Below w2.heap.size w2 w5) := HB4.out.trans (hb5.mono HB4.out.size); have HC5 : Hid (Below w3.heap.size w3 w5) := HC4.out.trans (hb5.mono HC4.out.size); clear hb5 x0 x1; obtain ⟨x0, x1⟩ := HX.out w5 HB5.out)
        | (go_at_call 16; refine (specBookWords_any _ _ _ xs es (HA.out.below HD3.out) (HE.out.below HD3.out)).mono ?_; rintro e w4 ⟨v4, rfl, ht4, hb4⟩; rw [HWW.out] at ht4; have HB4 : Hid (Below w2.heap.size w2 w4) := HD3.out.trans (hb4.mono HD3.out.size); have HC4 : Hid (Below w3.heap.size w3 w4) := HE3d.out.trans (hb4.mono HE3d.out.size); clear hb4 x0 x1; obtain ⟨x0, x1⟩ := HX.out w4 HB4.out; obtain ⟨a4, c4, rfl, -⟩ := ht4.form; have HT4 : Hid (TextsAt w4 (.slice a4 W.length c4) W) := ht4; clear ht4))
    clear hbk
    have HWT : Hid (wordsTo xs es es.length = W) := by have q := HWW.out; unfold wordsT at q; rw [if_pos HBK.out] at q; exact q
    have HL : Hid (W.length ≤ sumTo xs es es.length) := by show _ ≤ _; rw [← HWT.out]; exact words_sum xs es _
    have HAS : Hid (Asc W) := by rw [← HWT.out]; exact wordsTo_asc xs es _
    have hz8 : w1.heap.size < w8.heap.size := Nat.lt_of_lt_of_le hz2 HB8.out.size
    clear x0 x1
    go_wp2
    go_loopw [5, 6] (fun n i wr => ∃ (k : Nat), k ≤ es.length ∧ n = .int .i64 (sumTo xs es k) ∧ i = .int .i64 k ∧ Below w8.heap.size w8 wr) (fun _ i _ => es.length - (intOf i).toNat)
    case atStart => exact ⟨0, Nat.zero_le _, rfl, rfl, Below.refl _ _⟩
    case round =>
      obtain ⟨k, hk, rfl, rfl, hb⟩ := hrel
      have HB : Hid (Below w2.heap.size w2 wr) := HB8.out.trans (hb.mono HB8.out.size)
      have HB8r : Hid (Below w8.heap.size w8 wr) := hb
      clear hb
      obtain ⟨x0, x1⟩ := HX.out wr HB.out
      have hzw : w1.heap.size < wr.heap.size := Nat.lt_of_lt_of_le hz2 HB.out.size
      have hsk := sumTo_le xs es k
      by_cases hlt : k < es.length
      · obtain ⟨b, off, cap2, x, hv, hbl, hx, hxf, e0, e1⟩ := (HE.out.below HB.out).at hlt
        cases hv
        obtain ⟨st, fl⟩ := x
        have HXk : Hid (es[k]? = some (st, fl)) := hx
        simp only at e0 e1 hxf
        have HXF : Hid (st.size ≤ maxLen ∧ fl.size ≤ maxLen) := hxf
        have HAr : Hid (AffsAt wr (.slice b0 xs.length c0) xs) := HA.out.below HB.out
        have i0 : (0 : Int) ≤ (k : Int) := by omega
        have i1 : (k : Int) < (es.length : Int) := by omega
        clear hx hxf
        go_wp2_with fail
        go_region_held3 (fun w' => w'.cell? ⟨w1.heap.size, 0, none⟩ = some (.slice b0 xs.length c0) ∧ w'.cell? ⟨w1.heap.size, 1, none⟩ = some (.slice (some ⟨b, off, none⟩) es.length c1) ∧ w'.cell? ⟨b, off + k * 2, none⟩ = some (.string st) ∧ w'.cell? ⟨b, off + k * 2 + 1, none⟩ = some (.string fl)) (go_keep)
          ((go_at_call 8; refine (implForms_any _ _ xs st fl (HAr.out.below (Below.refl _ _).drew) HXF.out.1 HXF.out.2).mono ?_; rintro e w9 ⟨vl, rfl, htl, hb9⟩; have HB9 : Hid (Below wr.heap.size wr w9) := (Below.drew (Below.refl wr.heap.size wr)).trans hb9; have HTL : Hid (TextsAt w9 vl (formsT xs st fl)) := htl.at; have k0 := (HB9.out.cell (p := ⟨w1.heap.size, 0, none⟩) hzw).trans x0; have k1 := (HB9.out.cell (p := ⟨w1.heap.size, 1, none⟩) hzw).trans x1; have k2 := (HB9.out.cell (p := ⟨b, off + k * 2, none⟩) hbl).trans e0; have k3 := (HB9.out.cell (p := ⟨b, off + k * 2 + 1, none⟩) hbl).trans e1; clear hb9 x0 x1 e0 e1; obtain ⟨gl, cl, rfl, -⟩ := htl.at.form; clear htl))
        obtain ⟨fs, hfs⟩ : ∃ fs, formsT xs st fl = fs := ⟨_, rfl⟩
        have HFS : Hid (formsT xs st fl = fs) := hfs
        have HSN : Hid (sumTo xs es (k + 1) = sumTo xs es k + fs.length) := by show _ = _; rw [sumTo_next HXk.out, hfs]
        have hsk1 := sumTo_le xs es (k + 1)
        rw [HSN.out] at hsk1
        rw [hfs] at HTL ⊢
        clear hfs
        obtain ⟨sk, hsk'⟩ : ∃ sk, sumTo xs es k = sk := ⟨_, rfl⟩
        rw [hsk'] at HSN hsk hsk1 ⊢
        clear hsk'
        go_wp2
        go_loopw [8] (fun i wi => ∃ (j : Nat), j ≤ fs.length ∧ i = .int .i64 j ∧ Below w9.heap.size w9 wi) (fun i _ => fs.length - (intOf i).toNat)
        case atStart => exact ⟨0, Nat.zero_le _, rfl, Below.refl _ _⟩
        case round =>
          rename World => wi
          obtain ⟨j, hj, rfl, hb⟩ := hrel
          have HBi : Hid (Below w9.heap.size w9 wi) := hb
          clear hb
          by_cases hlj : j < fs.length
          · obtain ⟨b', off', cap3, s, hv', _, hs, _, d2⟩ := (HTL.out.below HBi.out).at hlj
            cases hv'
            have HM : Hid (memT W s = true) := by
              show _ = _
              rw [memT_hasW2, ← HWW.out]
              exact form_word HBK.out HXk.out (by rw [HFS.out]; exact List.mem_of_getElem? hs)
            have HTi : Hid (TextsAt wi (.slice a3 W.length c3) W) := (HT3.out.below HC8.out).below (HB8r.out.trans ((HB9.out.trans (HBi.out.mono HB9.out.size)).mono HB8r.out.size))
            clear hs
            go_wp2_with fail
            refine (mdHas_any _ _ W s HTi.out).mono ?_
            rintro e w10 ⟨rfl, hb10⟩
            have HB10 : Hid (Below w9.heap.size w9 w10) := HBi.out.trans (hb10.mono HBi.out.size)
            clear hb10 d2
            rw [HM.out]
            go_wp2
            go_roundw
            case rel => exact ⟨j + 1, by omega, by go_num, HB10.out⟩
            case measure => simp [intOf]; omega
          · have hje : j = fs.length := by omega
            subst hje
            go_wp2
            go_roundw
            case rel => exact ⟨k + 1, by omega, by rw [HSN.out]; go_num, by go_num, HB8r.out.trans ((HB9.out.trans (HBi.out.mono HB9.out.size)).mono HB8r.out.size)⟩
            case measure => simp [intOf]; omega
      · have hke : k = es.length := by omega
        subst hke
        have HTr : Hid (TextsAt wr (.slice a3 W.length c3) W) := (HT3.out.below HC8.out).below HB8r.out
        have hL := HL.out
        obtain ⟨sk, hsk'⟩ : ∃ sk, sumTo xs es es.length = sk := ⟨_, rfl⟩
        rw [hsk'] at hL hsk ⊢
        clear hsk'
        go_wp2
        go_loopw [9] (fun i wi => ∃ (j : Nat), 1 ≤ j ∧ i = .int .i64 j ∧ j ≤ W.length + 1 ∧ TextsAt wi (.slice a3 W.length c3) W ∧ Below wr.heap.size wr wi) (fun i _ => W.length + 1 - (intOf i).toNat)
        case atStart => exact ⟨1, by omega, rfl, by omega, HTr.out, Below.refl _ _⟩
        case round =>
          rename World => wi
          obtain ⟨j, hj1, rfl, hj2, hti, hb⟩ := hrel
          have HBi : Hid (Below wr.heap.size wr wi) := hb
          have HTi : Hid (TextsAt wi (.slice a3 W.length c3) W) := hti
          clear hb hti
          by_cases hlj : j < W.length
          · obtain ⟨m, rfl⟩ : ∃ m, j = m + 1 := ⟨j - 1, by omega⟩
            obtain ⟨b, off, cap2, x, hv, _, hx, _, y1⟩ := HTi.out.at (k := m) (by omega)
            cases hv
            obtain ⟨b', off', cap3, y, hv', _, hy, _, y2⟩ := HTi.out.at hlj
            cases hv'
            have hxy := asc_step HAS.out hx hy
            clear hx hy
            go_wp2_with fail
            go_region
            all_goals
              go_wp2
              go_roundw
              case rel => exact ⟨m + 1 + 1, by omega, by go_num, by omega, HTi.out.drew1, HBi.out.drew⟩
              case measure => simp [intOf]; omega
          · have hle : (W.length : Int) ≤ (sk : Int) := by omega
            go_wp2
            go_ret
            exact ⟨by simp <;> omega, HB2.out.trans ((HB.out.trans (HBi.out.mono HB.out.size)).mono HB2.out.size)⟩
end Go.Proofs.Ythikcililececaa
/-
  FnBookMore.
-/
namespace Go.Proofs.Ythikcililececaa
open Go.RowKit
set_option linter.unusedVariables false
theorem knowsTo_ex {xs : List Aff} {es : List (ByteArray × ByteArray)} {s : ByteArray} : ∀ n, knowsTo xs es s n = true → ∃ i e, i < n ∧ es[i]? = some e ∧ s ∈ formsT xs e.1 e.2
  | 0, h => by cases h
  | n + 1, h => by
    unfold knowsTo at h
    rw [Bool.or_eq_true] at h
    rcases h with h | h
    · obtain ⟨i, e, hi, he, hs⟩ := knowsTo_ex n h
      exact ⟨i, e, by omega, he, hs⟩
    · split at h
      · next e he => exact ⟨n, e, by omega, he, (hasW_iff _ _).1 h⟩
      · cases h
theorem ent_bare {st fl : ByteArray} (h : entT st fl = true) : entT st ⟨#[]⟩ = true := by
  unfold entT at h ⊢
  rw [Bool.and_eq_true] at h ⊢
  exact ⟨h.1, by decide⟩
theorem set_ent {es : List (ByteArray × ByteArray)} {k : Nat} {st fl : ByteArray} (hx : es[k]? = some (st, fl)) (j : Nat) (e : ByteArray × ByteArray) (he : (es.set k (st, ⟨#[]⟩))[j]? = some e) : ∃ f, es[j]? = some (e.1, f) ∧ (e.2 = f ∨ e.2 = ⟨#[]⟩) := by
  rw [List.getElem?_set] at he
  split at he
  · next hk =>
    subst hk
    split at he
    · cases he
      exact ⟨fl, hx, .inr rfl⟩
    · cases he
  · exact ⟨e.2, he, .inl rfl⟩
theorem less_book {xs : List Aff} {es : List (ByteArray × ByteArray)} (hb : bookT xs es = true) {k : Nat} {st fl : ByteArray} (hx : es[k]? = some (st, fl)) : bookT xs (es.set k (st, ⟨#[]⟩)) = true := by
  have hent := fun i e he => bookT_ent (i := i) (e := e) hb he
  have hdif := @stems_differ xs es hb
  have hl := bookT_len hb
  have ha := bookT_affs hb
  unfold bookT
  rw [ha, Bool.true_and]
  unfold entsT
  rw [Bool.and_eq_true]
  refine ⟨by rw [List.length_set]; exact decide_eq_true hl, ?_⟩
  rw [List.all_eq_true]
  intro i hi
  unfold entAt
  split
  · rfl
  · next e he =>
    obtain ⟨f, hf, h2⟩ := set_ent hx i e he
    rw [Bool.and_eq_true]
    refine ⟨?_, ?_⟩
    · have := hent i _ hf
      rcases h2 with h2 | h2
      · rw [h2]; exact this
      · rw [h2]; exact ent_bare this
    · match i, hf with
      | 0, _ => rfl
      | j + 1, hf =>
        dsimp only
        split
        · rfl
        · next p hp =>
          obtain ⟨f', hf', _⟩ := set_ent hx j p hp
          exact hdif (i := j) (j := j + 1) (p := (p.1, f')) (q := (e.1, f)) (by omega) hf' hf
theorem less_words {xs : List Aff} {es : List (ByteArray × ByteArray)} (hb : bookT xs es = true) {k : Nat} {st fl : ByteArray} (hx : es[k]? = some (st, fl)) {s : ByteArray} (hs : s ∈ wordsT xs (es.set k (st, ⟨#[]⟩))) : hasW (wordsT xs es) s = true := by
  have hb' := less_book hb hx
  unfold wordsT at hs
  rw [if_pos hb', mem_wordsTo] at hs
  obtain ⟨i, e, hi, he, hs⟩ := knowsTo_ex _ hs
  obtain ⟨f, hf, h2⟩ := set_ent hx i e he
  refine form_word hb hf ?_
  rw [formsT_L hb' he] at hs
  have h3 := formsT_L hb hf
  dsimp only at h3
  rw [h3]
  rcases h2 with h2 | h2
  · rw [h2] at hs; exact hs
  · rw [h2, forms_alone] at hs
    rw [List.mem_singleton] at hs
    rw [hs]
    exact stem_own
theorem less_stem {xs : List Aff} {es : List (ByteArray × ByteArray)} (hb : bookT xs es = true) {k : Nat} {st fl : ByteArray} (hx : es[k]? = some (st, fl)) : hasW (wordsT xs (es.set k (st, ⟨#[]⟩))) st = true := by
  have hb' := less_book hb hx
  have hk : (es.set k (st, ⟨#[]⟩))[k]? = some (st, ⟨#[]⟩) := by rw [List.getElem?_set]; simp [(List.getElem?_eq_some_iff.1 hx).1]
  refine form_word hb' hk ?_
  have h3 := formsT_L hb' hk
  dsimp only at h3
  rw [h3]
  exact stem_own
theorem entCells_set : ∀ (es : List (ByteArray × ByteArray)) (k : Nat) (st fl u : ByteArray), es[k]? = some (st, fl) → (entCells es).set (k * 2 + 1) (.string u) = entCells (es.set k (st, u))
  | [], k, st, fl, u, h => by simp at h
  | e :: es, 0, st, fl, u, h => by
    simp at h
    subst h
    simp [entCells]
  | e :: es, k + 1, st, fl, u, h => by
    have ih := entCells_set es k st fl u (by simpa using h)
    have h1 : ∀ e : ByteArray × ByteArray, ∀ l, entCells (e :: l) = .string e.1 :: .string e.2 :: entCells l := fun e l => by simp [entCells]
    rw [List.set_cons_succ, h1, h1, ← ih, show (k + 1) * 2 + 1 = (k * 2 + 1) + 1 + 1 by omega, List.set_cons_succ, List.set_cons_succ]
theorem entCells_len (es : List (ByteArray × ByteArray)) : (entCells es).length = es.length * 2 := by
  induction es with
  | nil => rfl
  | cons e es ih =>
    have : entCells (e :: es) = .string e.1 :: .string e.2 :: entCells es := by simp [entCells]
    rw [this]
    simp only [List.length_cons]
    rw [ih]
    omega
theorem news_ents {W : World} {xs : List (ByteArray × ByteArray)} {b off n cap : Nat} (h : EntsAt W (.slice (some ⟨b, off, none⟩) n cap) xs) : ∀ j u, (entCells xs)[j]? = some u → W.cell? ((⟨b, off, none⟩ : Addr).add j) = some u := by
  intro j u hu
  have hj : j < xs.length * 2 := by have := (List.getElem?_eq_some_iff.1 hu).1; rwa [entCells_len] at this
  have hi : j / 2 < xs.length := by omega
  obtain ⟨b', off', cap', x, hv, _, hx, _, h0, h1⟩ := h.at hi
  cases hv
  obtain ⟨e0, e1⟩ := entCells_at xs (j / 2) x hx
  have h2 : j % 2 = 0 ∨ j % 2 = 1 := by omega
  have ha : (⟨b, off, none⟩ : Addr).add j = ⟨b, off + j, none⟩ := by simp [Addr.add]
  rw [ha]
  rcases h2 with h2 | h2
  · rw [show off + j = off + j / 2 * 2 by omega, h0]
    rw [show j = j / 2 * 2 by omega] at hu
    rw [e0] at hu
    exact hu
  · rw [show off + j = off + j / 2 * 2 + 1 by omega, h1]
    rw [show j = j / 2 * 2 + 1 by omega] at hu
    rw [e1] at hu
    exact hu
theorem entCells_one' (xs : List (ByteArray × ByteArray)) : ∀ u ∈ entCells xs, u.oneCell' = true := by
  intro u hu
  simp only [entCells, List.mem_flatMap] at hu
  obtain ⟨a, _, hu⟩ := hu
  simp at hu
  rcases hu with rfl | rfl <;> rfl
theorem owns_some {w : World} {lo n s : Nat} {e : TypeId} {v : Value} {xs : List Value} (h : w.ownsRow lo e s v n xs) (hn : n ≠ 0) : ∃ g cap cur, v = .slice (some ⟨g, 0, none⟩) n cap ∧ lo ≤ g ∧ w.heap[g]? = some (.cells cur e (0, 0)) := by
  rcases h.2 with ⟨_, h0⟩ | ⟨g, cap, cur, rfl, hbase, hb, _⟩
  · exact absurd h0 hn
  · exact ⟨g, cap, cur, rfl, hbase, hb⟩
theorem owns_cap {w : World} {lo g n cap s : Nat} {e : TypeId} {xs : List Value} (h : w.ownsRow lo e s (.slice (some ⟨g, 0, none⟩) n cap) n xs) : n ≤ cap ∧ cap ≤ maxLen := by
  rcases h.2 with ⟨h0, _⟩ | ⟨g', cap', cur, hv, hbase, hb, h1, h2, _⟩
  · cases h0
  · cases hv
    exact ⟨h1, h2⟩
theorem heap_set_other (w : World) {B g o : Nat} (u : Value) (h : B ≠ g) : (w.setCell ⟨g, o, none⟩ u).heap[B]? = w.heap[B]? := by
  unfold World.setCell
  rw [Array.getElem?_modify]
  simp [show ¬ g = B from fun e => h e.symm]
theorem more9 {w8 : World} {X g cg q : Nat} {es : List (ByteArray × ByteArray)} {e : ByteArray × ByteArray} (h : w8.ownsRow (X + 1) 25 2 (.slice (some ⟨g, 0, none⟩) es.length cg) es.length (entCells es)) (hq : es[q]? = some e) : w8.cell? ⟨g, q * 2 + 1, none⟩ = some (.string e.2) ∧ w8.frozen? ⟨g, q * 2 + 1, none⟩ = false := by
  rcases h.2 with ⟨h0, _⟩ | ⟨g', cap', cur, hv, hbase, hb, h1, h2, h3, h4⟩
  · cases h0
  · cases hv
    refine ⟨?_, Go.Joins.unfrozen_of_block hb _⟩
    rw [cell_of_row _ _ _ _ _ _ hb]
    obtain ⟨_, e1⟩ := entCells_at es q e hq
    have hl : q < es.length := (List.getElem?_eq_some_iff.1 hq).1
    rw [← h4, List.getElem?_take_of_lt (by omega), Array.getElem?_toList] at e1
    exact e1
theorem more10 {w8 w10 : World} {X g cg q : Nat} {va vb : Value} {es : List (ByteArray × ByteArray)} {st fl : ByteArray} (h : w8.ownsRow (X + 1) 25 2 (.slice (some ⟨g, 0, none⟩) es.length cg) es.length (entCells es)) (hX : w8.heap[X]? = some (.cells #[va, vb] 40 (0, 0))) (hg : X + 1 ≤ g) (hq : es[q]? = some (st, fl)) (hes : ∀ e ∈ es, e.1.size ≤ 20 ∧ e.2.size ≤ 20)
    (hw : (w8.setCell ⟨X, 1, none⟩ (.slice (some ⟨g, 0, none⟩) es.length cg)).setCell ⟨g, q * 2 + 1, none⟩ (.string ⟨#[]⟩) = w10) : w10.heap[X]? = some (.cells #[va, .slice (some ⟨g, 0, none⟩) es.length cg] 40 (0, 0)) ∧ EntsAt w10 (.slice (some ⟨g, 0, none⟩) es.length cg) (es.set q (st, ⟨#[]⟩)) ∧ Below X w8 w10 := by
  have hl : q < es.length := (List.getElem?_eq_some_iff.1 hq).1
  refine ⟨?_, ?_, ?_⟩
  · rw [← hw, heap_set_other _ _ (by omega)]
    exact set_box hX _
  · have h9 := owns_set h X 1 (.slice (some ⟨g, 0, none⟩) es.length cg) (by omega)
    have h10 := owns_poke h9 (q * 2 + 1) (.string ⟨#[]⟩) (by rw [entCells_len]; omega)
    rw [hw, entCells_set es q st fl ⟨#[]⟩ hq] at h10
    have hlen : (es.set q (st, ⟨#[]⟩)).length = es.length := List.length_set
    rw [← hlen] at h10 ⊢
    refine entsAt_of_owns h10 fun e he => ?_
    rcases List.mem_or_eq_of_mem_set he with h1 | h1
    · exact hes e h1
    · rw [h1]
      exact ⟨(hes _ (List.mem_of_getElem? hq)).1, by show (0 : Nat) ≤ 20; decide⟩
  · rw [← hw]
    exact ((Below.refl _ _).setCell (p := ⟨X, 1, none⟩) (Nat.le_refl _) _).setCell (p := ⟨g, q * 2 + 1, none⟩) (by show X ≤ g; omega) _
set_option maxRecDepth 100000 in
set_option maxHeartbeats 2000000 in
theorem fnBookMore_walk (a : Option Addr) (len cap : Nat) (zs : List Int) (a' : Option Addr) (len' cap' : Nat) (zs' : List Int) (w : World) (h : IsRow .u8 w a len cap zs) (h' : IsRow .u8 w a' len' cap' zs') :
    Calls Try.prog 6 #[.slice a len cap, .slice a' len' cap'] w fun e w' => e = .returned (.bool true) ∧ Below w.heap.size w w' := by
  by_cases h1 : (1048576 : Int) < (len : Int)
  · clear h h'
    go_enter Try.func6, Try.ntmps6
    go_wp2
    go_ret
    exact ⟨rfl, Below.refl _ _⟩
  by_cases h2 : (1048576 : Int) < (len' : Int)
  · clear h h'
    go_enter Try.func6, Try.ntmps6
    go_wp2
    go_ret
    exact ⟨rfl, Below.refl _ _⟩
  have HI : Hid (IsRow .u8 w a len cap zs) := h
  clear h h'
  obtain ⟨i4, hi4, hz4, hs4, hb4⟩ := info_parts info_ent173
  go_enter Try.func6, Try.ntmps6
  go_wp2_with fail
  refine (drawBookWords_any w a len cap zs HI.out).mono ?_
  rintro e w1 ⟨va, ve, xs, es, rfl, hva, hve, hx5, he25, -, hes, hb1⟩
  obtain ⟨b0, c0, rfl, -⟩ := hva.form
  obtain ⟨b1, c1, rfl, -⟩ := hve.form
  obtain ⟨w2, hw2⟩ : ∃ x, w1.alloc (.cells #[.slice b0 xs.length c0, .slice b1 es.length c1] 40) = x := ⟨_, rfl⟩
  have hb12 : Below w1.heap.size w1 w2 := by rw [← hw2]; exact (Below.refl w1.heap.size w1).alloc (Nat.le_refl _) _
  have HA : Hid (AffsAt w2 (.slice b0 xs.length c0) xs) := hva.below hb12
  have HE : Hid (EntsAt w2 (.slice b1 es.length c1) es) := hve.below hb12
  have HES : Hid (∀ e ∈ es, e.1.size ≤ 20 ∧ e.2.size ≤ 20) := hes
  have HB2 : Hid (Below w.heap.size w w2) := hb1.trans (hb12.mono hb1.size)
  have hz2 : w1.heap.size < w2.heap.size := by rw [← hw2]; simp
  have hbx : w2.heap[w1.heap.size]? = some (.cells #[.slice b0 xs.length c0, .slice b1 es.length c1] 40 (0, 0)) := by rw [← hw2]; exact heap_alloc_last w1 _
  have HX : Hid (∀ w', Below w2.heap.size w2 w' → w'.cell? ⟨w1.heap.size, 0, none⟩ = some (.slice b0 xs.length c0) ∧ w'.cell? ⟨w1.heap.size, 1, none⟩ = some (.slice b1 es.length c1)) := fun w' hb => ⟨by rw [cell_of_row _ _ 0 _ _ _ ((hb.block _ hz2).trans hbx)]; rfl, by rw [cell_of_row _ _ 1 _ _ _ ((hb.block _ hz2).trans hbx)]; rfl⟩
  clear hva hve hb1 hb12 hbx hes
  obtain ⟨x0, x1⟩ := HX.out w2 (Below.refl _ _)
  go_wp2_with fail
  clear hw2
  refine (implBookWords_any w2 _ _ xs es HA.out HE.out).mono ?_
  rintro e w3 ⟨v3, rfl, ht3, hb3⟩
  have HB3 : Hid (Below w2.heap.size w2 w3) := hb3
  have hws := (wordsT_small xs es).1
  obtain ⟨W, hW⟩ : ∃ W, wordsT xs es = W := ⟨_, rfl⟩
  rw [hW] at ht3 hws
  have HT3 : Hid (TextsAt w3 v3 W) := ht3.at
  obtain ⟨a3, c3, rfl, hc3, -⟩ := ht3.at.form
  have HWW : Hid (wordsT xs es = W) := hW
  clear hb3 x0 x1 ht3 hW
  obtain ⟨x0, x1⟩ := HX.out w3 HB3.out
  go_wp2_with fail
  refine (specBookWords_any w3 _ _ xs es (HA.out.below HB3.out) (HE.out.below HB3.out)).mono ?_
  rintro e w4 ⟨v4, rfl, ht4, hb4'⟩
  rw [HWW.out] at ht4
  obtain ⟨a4, c4, rfl, -⟩ := ht4.form
  have HT4 : Hid (TextsAt w4 (.slice a4 W.length c4) W) := ht4
  have HC4 : Hid (Below w3.heap.size w3 w4) := hb4'
  have HB4 : Hid (Below w2.heap.size w2 w4) := HB3.out.trans (hb4'.mono HB3.out.size)
  clear hb4' ht4 x0 x1
  obtain ⟨x0, x1⟩ := HX.out w4 HB4.out
  go_wp2_with fail
  refine (mdTexts_same _ _ _ W (HT3.out.below HC4.out) HT4.out).mono ?_
  rintro e w5 ⟨rfl, hb5⟩
  have HC5 : Hid (Below w3.heap.size w3 w5) := HC4.out.trans (hb5.mono HC4.out.size)
  have HB5 : Hid (Below w2.heap.size w2 w5) := HB4.out.trans (hb5.mono HB4.out.size)
  clear hb5 x0 x1
  obtain ⟨x0, x1⟩ := HX.out w5 HB5.out
  go_wp2_with fail
  refine (specBookOk_any w5 _ _ xs es (HA.out.below HB5.out) (HE.out.below HB5.out)).mono ?_
  rintro e w6 ⟨rfl, hb6⟩
  have HC6 : Hid (Below w3.heap.size w3 w6) := HC5.out.trans (hb6.mono HC5.out.size)
  have HB6 : Hid (Below w2.heap.size w2 w6) := HB5.out.trans (hb6.mono HB5.out.size)
  clear hb6 x0 x1
  obtain ⟨x0, x1⟩ := HX.out w6 HB6.out
  have END : ∀ (hh : (bookT xs es && !(decide (es.length = 0))) = false), True := fun _ => trivial
  clear END
  cases hbk : bookT xs es with
  | false =>
    go_wp2_with fail
    refine (specBookWords_any w6 _ _ xs es (HA.out.below HB6.out) (HE.out.below HB6.out)).mono ?_
    rintro e w7 ⟨v7, rfl, ht7, hb7⟩
    rw [HWW.out] at ht7
    obtain ⟨a7, c7, rfl, -⟩ := ht7.form
    have HT7 : Hid (TextsAt w7 (.slice a7 W.length c7) W) := ht7
    have HC7 : Hid (Below w3.heap.size w3 w7) := HC6.out.trans (hb7.mono HC6.out.size)
    have HB7 : Hid (Below w2.heap.size w2 w7) := HB6.out.trans (hb7.mono HB6.out.size)
    clear hb7 ht7 x0 x1
    go_wp2_with fail
    refine (mdTexts_same _ _ _ W (HT3.out.below HC7.out) HT7.out).mono ?_
    rintro e w8 ⟨rfl, hb8⟩
    have HB8 : Hid (Below w2.heap.size w2 w8) := HB7.out.trans (hb8.mono HB7.out.size)
    clear hb8
    go_wp2
    go_ret
    exact ⟨rfl, HB2.out.trans (HB8.out.mono HB2.out.size)⟩
  | true =>
   have HBK : Hid (bookT xs es = true) := hbk
   by_cases hne : es.length = 0
   · have hn0 : ((es.length : Int) == 0) = true := by rw [hne]; rfl
     clear hne
     go_wp2_with fail
     refine (specBookWords_any w6 _ _ xs es (HA.out.below HB6.out) (HE.out.below HB6.out)).mono ?_
     rintro e w7 ⟨v7, rfl, ht7, hb7⟩
     rw [HWW.out] at ht7
     obtain ⟨a7, c7, rfl, -⟩ := ht7.form
     have HT7 : Hid (TextsAt w7 (.slice a7 W.length c7) W) := ht7
     have HC7 : Hid (Below w3.heap.size w3 w7) := HC6.out.trans (hb7.mono HC6.out.size)
     have HB7 : Hid (Below w2.heap.size w2 w7) := HB6.out.trans (hb7.mono HB6.out.size)
     clear hb7 ht7 x0 x1
     go_wp2_with fail
     refine (mdTexts_same _ _ _ W (HT3.out.below HC7.out) HT7.out).mono ?_
     rintro e w8 ⟨rfl, hb8⟩
     have HB8 : Hid (Below w2.heap.size w2 w8) := HB7.out.trans (hb8.mono HB7.out.size)
     clear hb8
     go_wp2
     go_ret
     exact ⟨rfl, HB2.out.trans (HB8.out.mono HB2.out.size)⟩
   · have hn0 : ((es.length : Int) == 0) = false := by rw [beq_eq_false_iff_ne]; omega
     obtain ⟨q, hq⟩ : ∃ q : Nat, q = len' % es.length := ⟨_, rfl⟩
     have hql : q < es.length := by rw [hq]; exact Nat.mod_lt _ (by omega)
     have hqi : (len' : Int).tmod (es.length : Int) = (q : Int) := by rw [hq]; rfl
     have hqj : (len' : Int) % (es.length : Int) = (q : Int) := by rw [hq]; rfl
     clear hq
     obtain ⟨b, off, cap2, x, hv, hbl, hx, hxf, e0, e1⟩ := (HE.out.below HB6.out).at hql
     cases hv
     obtain ⟨st, fl⟩ := x
     have HXk : Hid (es[q]? = some (st, fl)) := hx
     simp only at e0 e1 hxf
     clear hx hxf e0 e1
     have i0 : (0 : Int) ≤ (q : Int) := by omega
     have i1 : (q : Int) < (es.length : Int) := by omega
     obtain ⟨w7, hw7⟩ : ∃ x, (w6.alloc (.cells #[.slice b0 xs.length c0, .slice (some ⟨b, off, none⟩) es.length c1] 40)).alloc (.cells #[] 25) = x := ⟨_, rfl⟩
     have HC67 : Hid (Below w6.heap.size w6 w7) := by rw [← hw7]; exact ((Below.refl _ _).alloc (Nat.le_refl _) _).alloc (by simp) _
     have HB7 : Hid (Below w2.heap.size w2 w7) := HB6.out.trans (HC67.out.mono HB6.out.size)
     have HOW : Hid (w7.ownsRow (w6.heap.size + 1) 25 2 (.slice (some ⟨w6.heap.size + 1, 0, none⟩) 0 0) 0 []) := by
       rw [← hw7]
       refine owns_alone ?_ (Nat.le_refl _)
       have h := heap_alloc_last (w6.alloc (.cells #[.slice b0 xs.length c0, .slice (some ⟨b, off, none⟩) es.length c1] 40)) (.cells #[] 25)
       rw [World.size_alloc] at h
       exact h
     have HXB : Hid (w7.heap[w6.heap.size]? = some (.cells #[.slice b0 xs.length c0, .slice (some ⟨b, off, none⟩) es.length c1] 40 (0, 0))) := by
       show _ = _
       rw [← hw7]
       have h := ((Below.refl _ (w6.alloc (.cells #[.slice b0 xs.length c0, .slice (some ⟨b, off, none⟩) es.length c1] 40))).alloc (Nat.le_refl _) (.cells #[] 25)).block w6.heap.size (by simp)
       exact h.trans (heap_alloc_last w6 _)
     have HNW : Hid (EntsAt w7 (.slice (some ⟨b, off, none⟩) es.length c1) es) := HE.out.below HB7.out
     have hz7 : w7.heap.size = w6.heap.size + 1 + 1 := by rw [← hw7]; simp
     have hz6 : w1.heap.size < w6.heap.size := Nat.lt_of_lt_of_le hz2 HB6.out.size
     obtain ⟨y0, y1⟩ := HX.out w7 HB7.out
     go_wp2_with (at_builtin; refine wpList_append_own _ rfl _ _ 38 rfl (w6.heap.size + 1) 25 i4 (.agg #[.string ⟨#[]⟩, .string ⟨#[]⟩]) 2 32 Try.underlying38 hi4 hz4 hs4 hb4 rfl (by decide) (.slice (some ⟨w6.heap.size + 1, 0, none⟩) 0 0) 0 [] rfl HOW.out ⟨b, off, none⟩ es.length c1 (entCells es) rfl (entCells_len es) (news_ents HNW.out) (entCells_one' es) (by unfold maxLen; omega) (by omega) (by omega) ?_; intro v8 w8 hown hgrow hnil; rw [Nat.zero_add, List.nil_append] at hown; obtain ⟨g, cg, cur, hv8, hg, hcur⟩ := owns_some hown (by omega); subst hv8; have HB78 : Hid (Below (w6.heap.size + 1) w7 w8) := below_of_grown hgrow (fun k hk => by simp [Value.ownBlock] at hk; omega) (by omega); have HOW8 : Hid (w8.ownsRow (w6.heap.size + 1) 25 2 (.slice (some ⟨g, 0, none⟩) es.length cg) es.length (entCells es)) := hown; have HXB8 : Hid (w8.heap[w6.heap.size]? = some (.cells #[.slice b0 xs.length c0, .slice (some ⟨b, off, none⟩) es.length c1] 40 (0, 0))) := (HB78.out.block w6.heap.size (by omega)).trans HXB.out; have z0 : w8.cell? ⟨w6.heap.size, 0, none⟩ = some (.slice b0 xs.length c0) := (by rw [cell_of_row _ _ 0 _ _ _ HXB8.out]; rfl); have z1 : w8.cell? ⟨w6.heap.size, 1, none⟩ = some (.slice (some ⟨b, off, none⟩) es.length c1) := (by rw [cell_of_row _ _ 1 _ _ _ HXB8.out]; rfl); have u1 := Go.Joins.unfrozen_of_block HXB8.out 1; have hcg := (owns_cap hown).1; obtain ⟨k1, uk⟩ := more9 hown HXk.out; obtain ⟨w10, hw10⟩ : ∃ x, (w8.setCell ⟨w6.heap.size, 1, none⟩ (.slice (some ⟨g, 0, none⟩) es.length cg)).setCell ⟨g, q * 2 + 1, none⟩ (.string ⟨#[]⟩) = x := ⟨_, rfl⟩; obtain ⟨p0, p1, p2⟩ := more10 hown HXB8.out hg HXk.out HES.out hw10; have HXB10 : Hid (w10.heap[w6.heap.size]? = some (.cells #[.slice b0 xs.length c0, .slice (some ⟨g, 0, none⟩) es.length cg] 40 (0, 0))) := p0; have HE10 : Hid (EntsAt w10 (.slice (some ⟨g, 0, none⟩) es.length cg) (es.set q (st, ⟨#[]⟩))) := p1; have HB610 : Hid (Below w6.heap.size w6 w10) := HC67.out.trans ((HB78.out.mono (Nat.le_succ _)).trans p2); have y0 : w10.cell? ⟨w6.heap.size, 0, none⟩ = some (.slice b0 xs.length c0) := (by rw [cell_of_row _ _ 0 _ _ _ HXB10.out]; rfl); have y1 : w10.cell? ⟨w6.heap.size, 1, none⟩ = some (.slice (some ⟨g, 0, none⟩) es.length cg) := (by rw [cell_of_row _ _ 1 _ _ _ HXB10.out]; rfl); clear hown hgrow hnil hcur p0 p1 p2)
     clear hw10 hw7 z0 z1 u1 k1 uk
     obtain ⟨es', hes'⟩ : ∃ l, es.set q (st, ⟨#[]⟩) = l := ⟨_, rfl⟩
     have HB10 : Hid (Below w2.heap.size w2 w10) := HB6.out.trans (HB610.out.mono HB6.out.size)
     have HBKx : Hid (bookT xs es' = true) := by rw [← hes']; exact less_book HBK.out HXk.out
     have HLW : Hid (∀ s ∈ wordsT xs es', memT W s = true) := by rw [← hes']; exact fun s hs => by rw [memT_hasW2, ← HWW.out]; exact less_words HBK.out HXk.out hs
     have HLS : Hid (memT (wordsT xs es') st = true) := by rw [← hes']; show _ = _; rw [memT_hasW2]; exact less_stem HBK.out HXk.out
     rw [hes'] at HE10
     clear hes'
     refine (implBookWords_any w10 _ _ xs es' (HA.out.below HB10.out) HE10.out).mono ?_
     rintro e w11 ⟨v11, rfl, ht11, hb11⟩
     have hls := (wordsT_small xs es').1
     obtain ⟨L, hL⟩ : ∃ L, wordsT xs es' = L := ⟨_, rfl⟩
     rw [hL] at ht11 hls HLW HLS
     have HT11 : Hid (TextsAt w11 v11 L) := ht11.at
     obtain ⟨a11, c11, rfl, hc11, -⟩ := ht11.at.form
     have HB11 : Hid (Below w10.heap.size w10 w11) := hb11
     clear hb11 ht11 hL y0 y1
     have hz10 : w6.heap.size < w10.heap.size := lt_of_block HXB10.out
     go_wp2
     go_loopw [10] (fun i wi => ∃ (j : Nat), j ≤ L.length ∧ i = .int .i64 j ∧ Below w11.heap.size w11 wi) (fun i _ => L.length - (intOf i).toNat)
     case atStart => exact ⟨0, Nat.zero_le _, rfl, Below.refl _ _⟩
     case round =>
       rename World => wi
       obtain ⟨j, hj, rfl, hb⟩ := hrel
       have HBi : Hid (Below w11.heap.size w11 wi) := hb
       clear hb
       have HB10i : Hid (Below w10.heap.size w10 wi) := HB11.out.trans (HBi.out.mono HB11.out.size)
       have HB2i : Hid (Below w2.heap.size w2 wi) := HB10.out.trans (HB10i.out.mono HB10.out.size)
       by_cases hlj : j < L.length
       · obtain ⟨b', off', cap3, s, hv', _, hs, _, d2⟩ := (HT11.out.below HBi.out).at hlj
         cases hv'
         have HM : Hid (memT W s = true) := HLW.out s (List.mem_of_getElem? hs)
         have HTi : Hid (TextsAt wi (.slice a3 W.length c3) W) := HT3.out.below (HC6.out.trans ((HB610.out.trans (HB10i.out.mono HB610.out.size)).mono HC6.out.size))
         clear hs
         go_wp2_with fail
         refine (mdHas_any _ _ W s HTi.out).mono ?_
         rintro e w12 ⟨rfl, hb12⟩
         have HB12 : Hid (Below w11.heap.size w11 w12) := HBi.out.trans (hb12.mono HBi.out.size)
         clear hb12 d2
         rw [HM.out]
         go_wp2
         go_roundw
         case rel => exact ⟨j + 1, by omega, by go_num, HB12.out⟩
         case measure => simp [intOf]; omega
       · have hXi : wi.heap[w6.heap.size]? = _ := (HB10i.out.block _ hz10).trans HXB10.out
         have y0 : wi.cell? ⟨w6.heap.size, 0, none⟩ = some (.slice b0 xs.length c0) := by rw [cell_of_row _ _ 0 _ _ _ hXi]; rfl
         have y1 : wi.cell? ⟨w6.heap.size, 1, none⟩ = some (.slice (some ⟨g, 0, none⟩) es.length cg) := by rw [cell_of_row _ _ 1 _ _ _ hXi]; rfl
         clear hXi
         go_wp2_with fail
         refine (implBookOk_any wi _ _ xs es' (HA.out.below HB2i.out) (HE10.out.below HB10i.out)).mono ?_
         rintro e w12 ⟨rfl, hb12⟩
         rw [HBKx.out]
         have HB12 : Hid (Below wi.heap.size wi w12) := hb12
         have HB2j : Hid (Below w2.heap.size w2 w12) := HB2i.out.trans (hb12.mono HB2i.out.size)
         clear hb12 y0 y1
         obtain ⟨x0, x1⟩ := HX.out w12 HB2j.out
         obtain ⟨b', off', cap3, x, hv', hbl', hx, hxf, e0, e1⟩ := (HE.out.below HB2j.out).at hql
         cases hv'
         rw [HXk.out] at hx
         cases hx
         simp only at e0 e1
         clear hxf
         have HTj : Hid (TextsAt w12 (.slice a11 L.length c11) L) := (HT11.out.below HBi.out).below HB12.out
         go_wp2_with fail
         refine (mdHas_any _ _ L st HTj.out).mono ?_
         rintro e w13 ⟨rfl, hb13⟩
         rw [HLS.out]
         have HB13 : Hid (Below w2.heap.size w2 w13) := HB2j.out.trans (hb13.mono HB2j.out.size)
         clear hb13
         go_wp2
         go_ret
         exact ⟨rfl, HB2.out.trans (HB13.out.mono HB2.out.size)⟩
end Go.Proofs.Ythikcililececaa
/-
  FnBookStems.
-/
namespace Go.Proofs.Ythikcililececaa
open Go.RowKit
set_option linter.unusedVariables false
/-- An operation is taken first; the slot that it writes is told. -/
theorem wpAnyH_takeD {P : Program} {md : Region.Mode} {ops : Array Oper} {Q : Exit → Act → World → Prop} {S : World → Prop} {i d : Nat} {oi : Oper} {v : Value} {fuel : Nat} {listed : Array Bool} {a : Act} {w : World} (hi : ops[i]? = some oi)
    (hs : Region.noSelect ops = true) (hf : Region.free md ops listed i = true) (hr : (Region.ready md ops listed).contains i = true)
    (hQ : ∀ c a w, Q (.panic c) (a.put oi.dst v) w → Q (.panic c) a w) (hy : YieldsIf P ops S oi v a) (hS : S w) (hd : oi.dst = some d)
    (h : wpAnyH P md ops Q S fuel (listed.setIfInBounds i true) (a.put (some d) v) w) : wpAnyH P md ops Q S (fuel + 1) listed a w :=
  wpAnyH_take hi hs hf hr hQ hy hS (by rw [hd]; exact h)
/-- A box of two slices is no row of affixes or entries. -/
theorem box_slice {w : World} {B o : Nat} {t : TypeId} {fz : Nat × Nat} {a0 a1 : Option Addr} {n0 n1 k0 k1 : Nat} {x : ByteArray} (hB : w.heap[B]? = some (.cells #[.slice a0 n0 k0, .slice a1 n1 k1] t fz)) (h : w.cell? ⟨B, o, none⟩ = some (.string x)) : False := by
  rw [cell_of_row _ _ o _ _ _ hB] at h
  match o with
  | 0 => simp at h
  | 1 => simp at h
  | o + 2 => simp at h
theorem affs_box {w : World} {B o : Nat} {t : TypeId} {fz : Nat × Nat} {a0 a1 : Option Addr} {n0 n1 k0 k1 : Nat} {v : Value} {xs : List Aff} (h : AffsAt w v xs) (hB : w.heap[B]? = some (.cells #[.slice a0 n0 k0, .slice a1 n1 k1] t fz)) (u : Value) : AffsAt (w.setCell ⟨B, o, none⟩ u) v xs := by
  by_cases hx : xs = []
  · obtain ⟨a, cap, rfl, h1, h2, h3, _⟩ := h
    exact ⟨a, cap, rfl, h1, h2, h3, fun hn => absurd hx hn⟩
  · obtain ⟨a, cap, rfl, h1, h2, h3, h4⟩ := id h
    obtain ⟨b, off, rfl, hb, hc⟩ := h4 hx
    refine h.set (fun e => ?_) u
    obtain ⟨y, ys, rfl⟩ := List.exists_cons_of_ne_nil hx
    have h0 := (hc 0 y rfl).1
    subst e
    exact box_slice hB h0
theorem ents_box {w : World} {B o : Nat} {t : TypeId} {fz : Nat × Nat} {a0 a1 : Option Addr} {n0 n1 k0 k1 : Nat} {v : Value} {xs : List (ByteArray × ByteArray)} (h : EntsAt w v xs) (hB : w.heap[B]? = some (.cells #[.slice a0 n0 k0, .slice a1 n1 k1] t fz)) (u : Value) : EntsAt (w.setCell ⟨B, o, none⟩ u) v xs := by
  by_cases hx : xs = []
  · obtain ⟨a, cap, rfl, h1, h2, h3, _⟩ := h
    exact ⟨a, cap, rfl, h1, h2, h3, fun hn => absurd hx hn⟩
  · obtain ⟨a, cap, rfl, h1, h2, h3, h4⟩ := id h
    obtain ⟨b, off, rfl, hb, hc⟩ := h4 hx
    refine h.set (fun e => ?_) u
    obtain ⟨y, ys, rfl⟩ := List.exists_cons_of_ne_nil hx
    have h0 := (hc 0 y rfl).1
    subst e
    exact box_slice hB h0
set_option maxRecDepth 100000 in
set_option maxHeartbeats 1000000 in
theorem drawBookStems_any (w : World) (a : Option Addr) (len cap : Nat) (zs : List Int) (h : IsRow .u8 w a len cap zs) :
    Calls Try.prog 19 #[.slice a len cap] w fun e w' => ∃ (va ve : Value) (xs : List Aff) (es : List (ByteArray × ByteArray)) (s : ByteArray), e = .returned (.tuple #[.agg #[va, ve], .string s]) ∧ AffsAt w' va xs ∧ EntsAt w' ve es ∧ s.size ≤ 20 ∧ xs.length ≤ 5 ∧ es.length ≤ 25 ∧ Below w.heap.size w w' := by
  have HI : Hid (IsRow .u8 w a len cap zs) := h
  clear h
  go_enter Try.func19, Try.ntmps19
  go_wp2_with fail
  obtain ⟨w0, hw0⟩ : ∃ x, w.alloc (.cells #[.slice none 0 0, .slice none 0 0] 40) = x := ⟨_, rfl⟩
  have HI0 : Hid (IsRow .u8 w0 a len cap zs) := by rw [← hw0]; exact HI.out.keep ((Below.refl w.heap.size w).alloc (Nat.le_refl _) _)
  have HR0 : Hid (w0.heap[w.heap.size]? = some (.cells #[.slice none 0 0, .slice none 0 0] 40 (0, 0))) := by show _ = _; rw [← hw0]; exact heap_alloc_last w _
  have HB0 : Hid (Below w.heap.size w w0) := by rw [← hw0]; exact (Below.refl w.heap.size w).alloc (Nat.le_refl _) _
  have hz0 : w0.heap.size = w.heap.size + 1 := by rw [← hw0]; simp
  rw [hw0]
  clear hw0
  refine (drawBookKnows_any w0 a len cap zs HI0.out).mono ?_
  rintro e w2 ⟨va, ve, xs, es, s, rfl, hva, hve, hs, hx, he, -, -, hb⟩
  obtain ⟨b0, c0, rfl, -⟩ := hva.form
  obtain ⟨b1, c1, rfl, -⟩ := hve.form
  have hRb : w2.heap[w.heap.size]? = some (.cells #[.slice none 0 0, .slice none 0 0] 40 (0, 0)) := (hb.block w.heap.size (by omega)).trans HR0.out
  have HB2 : Hid (Below w.heap.size w w2) := HB0.out.trans (hb.mono (by omega))
  have HRB : Hid (w2.heap[w.heap.size]? = some (.cells #[.slice none 0 0, .slice none 0 0] 40 (0, 0))) := hRb
  have HA : Hid (AffsAt w2 (.slice b0 xs.length c0) xs) := hva
  have HE : Hid (EntsAt w2 (.slice b1 es.length c1) es) := hve
  have r0 : w2.cell? ⟨w.heap.size, 0, none⟩ = some (.slice none 0 0) := by rw [cell_of_row _ _ 0 _ _ _ hRb]; rfl
  have r1 : w2.cell? ⟨w.heap.size, 1, none⟩ = some (.slice none 0 0) := by rw [cell_of_row _ _ 1 _ _ _ hRb]; rfl
  have u0 := Go.Joins.unfrozen_of_block hRb 0
  have u1 := Go.Joins.unfrozen_of_block hRb 1
  clear hRb hb hva hve
  go_wp2
  have HR1 := set_box0 HRB.out (.slice b0 xs.length c0)
  refine bodyPost_ret (v := .tuple #[.agg #[.slice b0 xs.length c0, .slice b1 es.length c1], .string s]) (by simp [results, Try.results19, go_sem, r0, r1]) rfl ⟨_, _, xs, es, s, rfl, ?_, ?_, hs, hx, he, (HB2.out.setCell (Nat.le_refl _) _).setCell (Nat.le_refl _) _⟩
  · exact affs_box (affs_box HA.out HRB.out _) HR1 _
  · exact ents_box (ents_box HE.out HRB.out _) HR1 _
set_option maxRecDepth 100000 in
set_option maxHeartbeats 2000000 in
theorem fnBookStems_walk (a : Option Addr) (len cap : Nat) (zs : List Int) (w : World) (h : IsRow .u8 w a len cap zs) :
    Calls Try.prog 5 #[.slice a len cap] w fun e w' => e = .returned (.bool true) ∧ Below w.heap.size w w' := by
  by_cases h1 : (1048576 : Int) < (len : Int)
  · clear h
    go_enter Try.func5, Try.ntmps5
    go_wp2
    go_ret
    exact ⟨rfl, Below.refl _ _⟩
  have HI : Hid (IsRow .u8 w a len cap zs) := h
  clear h
  go_enter Try.func5, Try.ntmps5
  go_wp2_with fail
  refine (drawBookStems_any w a len cap zs HI.out).mono ?_
  rintro e w1 ⟨va, ve, xs, es, s, rfl, hva, hve, hs20, hx5, he25, hb1⟩
  have HM : Hid (s.size ≤ maxLen) := by show _ ≤ _; unfold maxLen; omega
  obtain ⟨b0, c0, rfl, -⟩ := hva.form
  obtain ⟨b1, c1, rfl, -⟩ := hve.form
  obtain ⟨w2, hw2⟩ : ∃ x, w1.alloc (.cells #[.slice b0 xs.length c0, .slice b1 es.length c1] 40) = x := ⟨_, rfl⟩
  have hb12 : Below w1.heap.size w1 w2 := by rw [← hw2]; exact (Below.refl w1.heap.size w1).alloc (Nat.le_refl _) _
  have HA : Hid (AffsAt w2 (.slice b0 xs.length c0) xs) := hva.below hb12
  have HE : Hid (EntsAt w2 (.slice b1 es.length c1) es) := hve.below hb12
  have HB2 : Hid (Below w.heap.size w w2) := hb1.trans (hb12.mono hb1.size)
  have hz2 : w1.heap.size < w2.heap.size := by rw [← hw2]; simp
  have hbx : w2.heap[w1.heap.size]? = some (.cells #[.slice b0 xs.length c0, .slice b1 es.length c1] 40 (0, 0)) := by rw [← hw2]; exact heap_alloc_last w1 _
  have HX : Hid (∀ w', Below w2.heap.size w2 w' → w'.cell? ⟨w1.heap.size, 0, none⟩ = some (.slice b0 xs.length c0) ∧ w'.cell? ⟨w1.heap.size, 1, none⟩ = some (.slice b1 es.length c1)) := fun w' hb => ⟨by rw [cell_of_row _ _ 0 _ _ _ ((hb.block _ hz2).trans hbx)]; rfl, by rw [cell_of_row _ _ 1 _ _ _ ((hb.block _ hz2).trans hbx)]; rfl⟩
  clear hva hve hb1 hb12 hbx
  obtain ⟨x0, x1⟩ := HX.out w2 (Below.refl _ _)
  go_wp2_with fail
  clear hw2
  refine (implBookStems_any w2 _ _ xs es s HA.out HE.out HM.out).mono ?_
  rintro e w3 ⟨v3, rfl, ht3, hb3⟩
  have HB3 : Hid (Below w2.heap.size w2 w3) := hb3
  have hws := stemsT_small xs es s
  obtain ⟨W, hW⟩ : ∃ W, stemsT xs es s = W := ⟨_, rfl⟩
  rw [hW] at ht3 hws
  have HT3 : Hid (TextsAt w3 v3 W) := ht3.at
  obtain ⟨a3, c3, rfl, hc3, -⟩ := ht3.at.form
  have HWW : Hid (stemsT xs es s = W) := hW
  clear hb3 x0 x1 ht3 hW
  obtain ⟨x0, x1⟩ := HX.out w3 HB3.out
  go_wp2_with fail
  refine (specBookStems_any w3 _ _ xs es s (HA.out.below HB3.out) (HE.out.below HB3.out)).mono ?_
  rintro e w4 ⟨v4, rfl, ht4, hb4'⟩
  rw [HWW.out] at ht4
  obtain ⟨a4, c4, rfl, -⟩ := ht4.form
  have HT4 : Hid (TextsAt w4 (.slice a4 W.length c4) W) := ht4
  have HC4 : Hid (Below w3.heap.size w3 w4) := hb4'
  have HB4 : Hid (Below w2.heap.size w2 w4) := HB3.out.trans (hb4'.mono HB3.out.size)
  clear hb4' ht4 x0 x1
  obtain ⟨x0, x1⟩ := HX.out w4 HB4.out
  go_wp2_with fail
  refine (mdTexts_same _ _ _ W (HT3.out.below HC4.out) HT4.out).mono ?_
  rintro e w5 ⟨rfl, hb5⟩
  have HC5 : Hid (Below w3.heap.size w3 w5) := HC4.out.trans (hb5.mono HC4.out.size)
  have HB5 : Hid (Below w2.heap.size w2 w5) := HB4.out.trans (hb5.mono HB4.out.size)
  clear hb5 x0 x1
  obtain ⟨x0, x1⟩ := HX.out w5 HB5.out
  go_wp2_with fail
  refine (specBookOk_any w5 _ _ xs es (HA.out.below HB5.out) (HE.out.below HB5.out)).mono ?_
  rintro e w6 ⟨rfl, hb6⟩
  have HC6 : Hid (Below w3.heap.size w3 w6) := HC5.out.trans (hb6.mono HC5.out.size)
  have HB6 : Hid (Below w2.heap.size w2 w6) := HB5.out.trans (hb6.mono HB5.out.size)
  clear hb6 x0 x1
  obtain ⟨x0, x1⟩ := HX.out w6 HB6.out
  cases hbk : bookT xs es with
  | false =>
    go_wp2_with fail
    refine (specBookStems_any w6 _ _ xs es s (HA.out.below HB6.out) (HE.out.below HB6.out)).mono ?_
    rintro e w7 ⟨v7, rfl, ht7, hb7⟩
    rw [HWW.out] at ht7
    obtain ⟨a7, c7, rfl, -⟩ := ht7.form
    have HT7 : Hid (TextsAt w7 (.slice a7 W.length c7) W) := ht7
    have HC7 : Hid (Below w3.heap.size w3 w7) := HC6.out.trans (hb7.mono HC6.out.size)
    have HB7 : Hid (Below w2.heap.size w2 w7) := HB6.out.trans (hb7.mono HB6.out.size)
    clear hb7 ht7 x0 x1
    go_wp2_with fail
    refine (mdTexts_same _ _ _ W (HT3.out.below HC7.out) HT7.out).mono ?_
    rintro e w8 ⟨rfl, hb8⟩
    have HB8 : Hid (Below w2.heap.size w2 w8) := HB7.out.trans (hb8.mono HB7.out.size)
    clear hb8
    go_wp2
    go_ret
    exact ⟨rfl, HB2.out.trans (HB8.out.mono HB2.out.size)⟩
  | true =>
    have HBK : Hid (bookT xs es = true) := hbk
    clear x0 x1 hbk
    go_wp2
    go_loopw [6] (fun i wr => ∃ (k : Nat), k ≤ es.length ∧ i = .int .i64 k ∧ Below w6.heap.size w6 wr) (fun i _ => es.length - (intOf i).toNat)
    case atStart => exact ⟨0, Nat.zero_le _, rfl, Below.refl _ _⟩
    case round =>
      obtain ⟨k, hk, rfl, hb⟩ := hrel
      have HB : Hid (Below w2.heap.size w2 wr) := HB6.out.trans (hb.mono HB6.out.size)
      have HC : Hid (Below w3.heap.size w3 wr) := HC6.out.trans (hb.mono HC6.out.size)
      have HB6r : Hid (Below w6.heap.size w6 wr) := hb
      clear hb
      obtain ⟨x0, x1⟩ := HX.out wr HB.out
      by_cases hlt : k < es.length
      · obtain ⟨b, off, cap2, x, hv, hbl, hx, hxf, e0, e1⟩ := (HE.out.below HB.out).at hlt
        cases hv
        obtain ⟨st, fl⟩ := x
        have HXk : Hid (es[k]? = some (st, fl)) := hx
        simp only at e0 e1 hxf
        have HXF : Hid (st.size ≤ maxLen ∧ fl.size ≤ maxLen) := hxf
        have i0 : (0 : Int) ≤ (k : Int) := by omega
        have i1 : (k : Int) < (es.length : Int) := by omega
        have HMK : Hid (memT W st = memT (formsT xs st fl) s) := by show _ = _; rw [memT_hasW2, memT_hasW2, ← HWW.out]; exact stem_makes HBK.out HXk.out s
        clear hx hxf
        obtain ⟨w7, hw7⟩ : ∃ x, wr.alloc (.cells #[.string st, .string fl] 25) = x := ⟨_, rfl⟩
        have HR7 : Hid (Below wr.heap.size wr w7) := by rw [← hw7]; exact (Below.refl _ _).alloc (Nat.le_refl _) _
        have HB7 : Hid (Below w2.heap.size w2 w7) := HB.out.trans (HR7.out.mono HB.out.size)
        have HC7 : Hid (Below w3.heap.size w3 w7) := HC.out.trans (HR7.out.mono HC.out.size)
        have HEb : Hid (w7.heap[wr.heap.size]? = some (.cells #[.string st, .string fl] 25 (0, 0))) := by show _ = _; rw [← hw7]; exact heap_alloc_last wr _
        have hz7 : wr.heap.size < w7.heap.size := lt_of_block HEb.out
        have hz1 : w1.heap.size < w7.heap.size := Nat.lt_of_lt_of_le hz2 HB7.out.size
        have HY : Hid (∀ w', Below w7.heap.size w7 w' → (w'.cell? ⟨w1.heap.size, 0, none⟩ = some (.slice b0 xs.length c0) ∧ w'.cell? ⟨wr.heap.size, 0, none⟩ = some (.string st) ∧ w'.cell? ⟨wr.heap.size, 1, none⟩ = some (.string fl))) := fun w' hb => ⟨(HX.out w' (HB7.out.trans (hb.mono HB7.out.size))).1, by rw [cell_of_row _ _ 0 _ _ _ ((hb.block _ hz7).trans HEb.out)]; rfl, by rw [cell_of_row _ _ 1 _ _ _ ((hb.block _ hz7).trans HEb.out)]; rfl⟩
        obtain ⟨y0, y1, y2⟩ := HY.out w7 (Below.refl _ _)
        obtain ⟨mk, hmk⟩ : ∃ m, memT W st = m := ⟨_, rfl⟩
        have HM1 : Hid (memT W st = mk) := hmk
        have HM2 : Hid (memT (formsT xs st fl) s = mk) := by show _ = _; rw [← HMK.out]; exact hmk
        clear hmk
        have HD7 : Hid (Below w7.heap.size w7 w7.drew) := (Below.refl _ _).drew
        cases heq : (st.toList == s.toList) with
        | true =>
          have hss : st = s := toList_inj' (by simpa using heq)
          have HSS : Hid (memT W s = true) := by show _ = _; rw [memT_hasW2, ← HWW.out, ← hss]; exact stem_self HBK.out HXk.out
          clear hss
          go_wp2_with fail
          first
          | (go_region_held3 (fun w' => w'.cell? ⟨w1.heap.size, 0, none⟩ = some (.slice b0 xs.length c0) ∧ w'.cell? ⟨wr.heap.size, 0, none⟩ = some (.string st) ∧ w'.cell? ⟨wr.heap.size, 1, none⟩ = some (.string fl)) (go_keep)
             (first
               | (have q := HF10; clear q; go_at_call 12; refine (mdHas_any _ _ W s ((HT3.out.below HC7.out).below HF10.out)).mono ?_; rintro e w11 ⟨rfl, hb11⟩; rw [HSS.out]; have HF11 : Hid (Below w7.heap.size w7 w11) := HF10.out.trans (hb11.mono HF10.out.size); clear hb11 y0 y1 y2; obtain ⟨y0, y1, y2⟩ := HY.out w11 HF11.out)
               | (have q := HF9; clear q; go_at_call 12; refine (mdHas_any _ _ (formsT xs st fl) s HT9.out).mono ?_; rintro e w10 ⟨rfl, hb10⟩; rw [HM2.out]; have HF10 : Hid (Below w7.heap.size w7 w10) := HF9.out.trans (hb10.mono HF9.out.size); clear hb10 y0 y1 y2; obtain ⟨y0, y1, y2⟩ := HY.out w10 HF10.out)
               | (have q := HF8; clear q; go_at_call 8; refine (implForms_any _ _ xs st fl (HA.out.below (HB7.out.trans (HF8.out.mono HB7.out.size))) HXF.out.1 HXF.out.2).mono ?_; rintro e w9 ⟨v9, rfl, ht9, hb9⟩; have HF9 : Hid (Below w7.heap.size w7 w9) := HF8.out.trans (hb9.mono HF8.out.size); clear hb9 y0 y1 y2; obtain ⟨y0, y1, y2⟩ := HY.out w9 HF9.out; have HT9 : Hid (TextsAt w9 v9 (formsT xs st fl)) := ht9.at; obtain ⟨a9, c9, rfl, -⟩ := ht9.at.form; clear ht9)
               | (go_at_call 12; refine (mdHas_any _ _ W st ((HT3.out.below HC7.out).below HD7.out)).mono ?_; rintro e w8 ⟨rfl, hb8⟩; rw [HM1.out]; have HF8 : Hid (Below w7.heap.size w7 w8) := HD7.out.trans (hb8.mono HD7.out.size); clear hb8 y0 y1 y2; obtain ⟨y0, y1, y2⟩ := HY.out w8 HF8.out)))
          | fail
          go_wp2
          go_roundw
          case rel => exact ⟨k + 1, by omega, by go_num, HB6r.out.trans ((HR7.out.trans (HF11.out.mono HR7.out.size)).mono HB6r.out.size)⟩
          case measure => simp [intOf]; omega
        | false =>
          cases mk with
          | true =>
            go_wp2_with fail
            refine wp_region_held_drew (S := (fun w' => w'.cell? ⟨w1.heap.size, 0, none⟩ = some (.slice b0 xs.length c0) ∧ w'.cell? ⟨wr.heap.size, 0, none⟩ = some (.string st) ∧ w'.cell? ⟨wr.heap.size, 1, none⟩ = some (.string fl))) (by kernel_rfl) ?_ (fun hHeld => ?_)
            · (first | go_keep | ((try dsimp only); go_keep))
            refine wpAnyH_takeD (i := 0) (d := 47) (v := .slice a3 W.length c3) rfl (by kernel_rfl) (by kernel_rfl) (by kernel_rfl) (fun _ _ _ h => h) (Or.inl ⟨by rfl, by intro w hSw; (try dsimp only at hSw); go_simp⟩) (by assumption) rfl ?_
            simp only [Act.put, List.setIfInBounds_toArray, List.set_cons_zero, List.set_cons_succ]
            refine wpAnyH_takeD (i := 1) (d := 48) (v := .pointer (some ⟨wr.heap.size, 0, none⟩)) rfl (by kernel_rfl) (by kernel_rfl) (by kernel_rfl) (fun _ _ _ h => h) (Or.inl ⟨by rfl, by intro w hSw; (try dsimp only at hSw); go_simp⟩) (by assumption) rfl ?_
            simp only [Act.put, List.setIfInBounds_toArray, List.set_cons_zero, List.set_cons_succ]
            refine wpAnyH_takeD (i := 2) (d := 49) (v := .string st) rfl (by kernel_rfl) (by kernel_rfl) (by kernel_rfl) (fun _ _ _ h => h) (Or.inl ⟨by rfl, by intro w hSw; (try dsimp only at hSw); go_simp⟩) (by assumption) rfl ?_
            simp only [Act.put, List.setIfInBounds_toArray, List.set_cons_zero, List.set_cons_succ]
            refine wpAnyH_takeD (i := 4) (d := 51) (v := .pointer (some ⟨w1.heap.size, 0, none⟩)) rfl (by kernel_rfl) (by kernel_rfl) (by kernel_rfl) (fun _ _ _ h => h) (Or.inl ⟨by rfl, by intro w hSw; (try dsimp only at hSw); go_simp⟩) (by assumption) rfl ?_
            simp only [Act.put, List.setIfInBounds_toArray, List.set_cons_zero, List.set_cons_succ]
            refine wpAnyH_takeD (i := 5) (d := 52) (v := .slice b0 xs.length c0) rfl (by kernel_rfl) (by kernel_rfl) (by kernel_rfl) (fun _ _ _ h => h) (Or.inl ⟨by rfl, by intro w hSw; (try dsimp only at hSw); go_simp⟩) (by assumption) rfl ?_
            simp only [Act.put, List.setIfInBounds_toArray, List.set_cons_zero, List.set_cons_succ]
            refine wpAnyH_takeD (i := 6) (d := 53) (v := .agg #[.string st, .string fl]) rfl (by kernel_rfl) (by kernel_rfl) (by kernel_rfl) (fun _ _ _ h => h) (Or.inl ⟨by rfl, by intro w hSw; (try dsimp only at hSw); go_simp⟩) (by assumption) rfl ?_
            simp only [Act.put, List.setIfInBounds_toArray, List.set_cons_zero, List.set_cons_succ]
            refine wpAnyH_takeD (i := 8) (d := 55) (v := .string s) rfl (by kernel_rfl) (by kernel_rfl) (by kernel_rfl) (fun _ _ _ h => h) (Or.inl ⟨by rfl, by intro w hSw; (try dsimp only at hSw); go_simp⟩) (by assumption) rfl ?_
            simp only [Act.put, List.setIfInBounds_toArray, List.set_cons_zero, List.set_cons_succ]
            refine wpAnyH_ready (rs := [3]) (by kernel_rfl) (by simp) ?_
            refine AllReadyH.cons rfl (fun K hK => ?_) AllReadyH.nil
            go_simp
            go_at_call 12; refine (mdHas_any _ _ W st ((HT3.out.below HC7.out).below HD7.out)).mono ?_; rintro e w8 ⟨rfl, hb8⟩; rw [HM1.out]; have HF8 : Hid (Below w7.heap.size w7 w8) := HD7.out.trans (hb8.mono HD7.out.size); clear hb8 y0 y1 y2; obtain ⟨y0, y1, y2⟩ := HY.out w8 HF8.out
            refine hK.out _ _ ?_ (fun hHeld => ?_)
            · (first | go_keep | ((try dsimp only); go_keep))
            clear hK K
            try simp only [Act.put, List.setIfInBounds_toArray, List.set_cons_zero, List.set_cons_succ]
            refine wpAnyH_ready (rs := [7]) (by kernel_rfl) (by simp) ?_
            refine AllReadyH.cons rfl (fun K hK => ?_) AllReadyH.nil
            go_simp
            have q := HF8; clear q; go_at_call 8; refine (implForms_any _ _ xs st fl (HA.out.below (HB7.out.trans (HF8.out.mono HB7.out.size))) HXF.out.1 HXF.out.2).mono ?_; rintro e w9 ⟨v9, rfl, ht9, hb9⟩; have HF9 : Hid (Below w7.heap.size w7 w9) := HF8.out.trans (hb9.mono HF8.out.size); clear hb9 y0 y1 y2; obtain ⟨y0, y1, y2⟩ := HY.out w9 HF9.out; have HT9 : Hid (TextsAt w9 v9 (formsT xs st fl)) := ht9.at; obtain ⟨a9, c9, rfl, -⟩ := ht9.at.form; clear ht9
            refine hK.out _ _ ?_ (fun hHeld => ?_)
            · (first | go_keep | ((try dsimp only); go_keep))
            clear hK K
            try simp only [Act.put, List.setIfInBounds_toArray, List.set_cons_zero, List.set_cons_succ]
            refine wpAnyH_ready (rs := [9]) (by kernel_rfl) (by simp) ?_
            refine AllReadyH.cons rfl (fun K hK => ?_) AllReadyH.nil
            go_simp
            have q := HF9; clear q; go_at_call 12; refine (mdHas_any _ _ (formsT xs st fl) s HT9.out).mono ?_; rintro e w10 ⟨rfl, hb10⟩; rw [HM2.out]; have HF10 : Hid (Below w7.heap.size w7 w10) := HF9.out.trans (hb10.mono HF9.out.size); clear hb10 y0 y1 y2; obtain ⟨y0, y1, y2⟩ := HY.out w10 HF10.out
            refine hK.out _ _ ?_ (fun hHeld => ?_)
            · (first | go_keep | ((try dsimp only); go_keep))
            clear hK K
            try simp only [Act.put, List.setIfInBounds_toArray, List.set_cons_zero, List.set_cons_succ]
            refine wpAnyH_takeD (i := 10) (d := 57) (v := .bool false) rfl (by kernel_rfl) (by kernel_rfl) (by kernel_rfl) (fun _ _ _ h => h) (Or.inl ⟨by rfl, by intro w hSw; (try dsimp only at hSw); go_simp⟩) (by assumption) rfl ?_
            simp only [Act.put, List.setIfInBounds_toArray, List.set_cons_zero, List.set_cons_succ]
            refine wpAnyH_takeD (i := 11) (d := 58) (v := .bool false) rfl (by kernel_rfl) (by kernel_rfl) (by kernel_rfl) (fun _ _ _ h => h) (Or.inl ⟨by rfl, by intro w hSw; (try dsimp only at hSw); go_simp⟩) (by assumption) rfl ?_
            simp only [Act.put, List.setIfInBounds_toArray, List.set_cons_zero, List.set_cons_succ]
            refine wpAnyH_takeD (i := 12) (d := 59) (v := .pointer (some ⟨wr.heap.size, 0, none⟩)) rfl (by kernel_rfl) (by kernel_rfl) (by kernel_rfl) (fun _ _ _ h => h) (Or.inl ⟨by rfl, by intro w hSw; (try dsimp only at hSw); go_simp⟩) (by assumption) rfl ?_
            simp only [Act.put, List.setIfInBounds_toArray, List.set_cons_zero, List.set_cons_succ]
            refine wpAnyH_takeD (i := 13) (d := 60) (v := .string st) rfl (by kernel_rfl) (by kernel_rfl) (by kernel_rfl) (fun _ _ _ h => h) (Or.inl ⟨by rfl, by intro w hSw; (try dsimp only at hSw); go_simp⟩) (by assumption) rfl ?_
            simp only [Act.put, List.setIfInBounds_toArray, List.set_cons_zero, List.set_cons_succ]
            refine wpAnyH_takeD (i := 14) (d := 61) (v := .string s) rfl (by kernel_rfl) (by kernel_rfl) (by kernel_rfl) (fun _ _ _ h => h) (Or.inl ⟨by rfl, by intro w hSw; (try dsimp only at hSw); go_simp⟩) (by assumption) rfl ?_
            simp only [Act.put, List.setIfInBounds_toArray, List.set_cons_zero, List.set_cons_succ]
            refine wpAnyH_takeD (i := 15) (d := 62) (v := .bool false) rfl (by kernel_rfl) (by kernel_rfl) (by kernel_rfl) (fun _ _ _ h => h) (Or.inl ⟨by rfl, by intro w hSw; (try dsimp only at hSw); go_simp⟩) (by assumption) rfl ?_
            simp only [Act.put, List.setIfInBounds_toArray, List.set_cons_zero, List.set_cons_succ]
            refine wpAnyH_takeD (i := 16) (d := 63) (v := .bool false) rfl (by kernel_rfl) (by kernel_rfl) (by kernel_rfl) (fun _ _ _ h => h) (Or.inl ⟨by rfl, by intro w hSw; (try dsimp only at hSw); go_simp⟩) (by assumption) rfl ?_
            simp only [Act.put, List.setIfInBounds_toArray, List.set_cons_zero, List.set_cons_succ]
            refine wpAnyH_takeD (i := 17) (d := 64) (v := undef) rfl (by kernel_rfl) (by kernel_rfl) (by kernel_rfl) (fun _ _ _ h => h) (Or.inr ⟨by rfl, rfl⟩) (by assumption) rfl ?_
            simp only [Act.put, List.setIfInBounds_toArray, List.set_cons_zero, List.set_cons_succ]
            refine wpAnyH_takeD (i := 18) (d := 65) (v := undef) rfl (by kernel_rfl) (by kernel_rfl) (by kernel_rfl) (fun _ _ _ h => h) (Or.inr ⟨by rfl, rfl⟩) (by assumption) rfl ?_
            simp only [Act.put, List.setIfInBounds_toArray, List.set_cons_zero, List.set_cons_succ]
            refine wpAnyH_takeD (i := 19) (d := 66) (v := undef) rfl (by kernel_rfl) (by kernel_rfl) (by kernel_rfl) (fun _ _ _ h => h) (Or.inr ⟨by rfl, rfl⟩) (by assumption) rfl ?_
            simp only [Act.put, List.setIfInBounds_toArray, List.set_cons_zero, List.set_cons_succ]
            refine wpAnyH_takeD (i := 20) (d := 67) (v := undef) rfl (by kernel_rfl) (by kernel_rfl) (by kernel_rfl) (fun _ _ _ h => h) (Or.inr ⟨by rfl, rfl⟩) (by assumption) rfl ?_
            simp only [Act.put, List.setIfInBounds_toArray, List.set_cons_zero, List.set_cons_succ]
            refine wpAnyH_takeD (i := 21) (d := 68) (v := .bool false) rfl (by kernel_rfl) (by kernel_rfl) (by kernel_rfl) (fun _ _ _ h => h) (Or.inl ⟨by rfl, by intro w hSw; (try dsimp only at hSw); go_simp⟩) (by assumption) rfl ?_
            simp only [Act.put, List.setIfInBounds_toArray, List.set_cons_zero, List.set_cons_succ]
            refine wpAnyH_takeD (i := 22) (d := 69) (v := .bool false) rfl (by kernel_rfl) (by kernel_rfl) (by kernel_rfl) (fun _ _ _ h => h) (Or.inl ⟨by rfl, by intro w hSw; (try dsimp only at hSw); go_simp⟩) (by assumption) rfl ?_
            simp only [Act.put, List.setIfInBounds_toArray, List.set_cons_zero, List.set_cons_succ]
            refine wpAnyH_done (by kernel_rfl) ?_ _
            go_wp2
            go_roundw
            case rel => exact ⟨k + 1, by omega, by go_num, HB6r.out.trans ((HR7.out.trans (HF10.out.mono HR7.out.size)).mono HB6r.out.size)⟩
            case measure => simp [intOf]; omega
          | false =>
            go_wp2_with fail
            refine wp_region_held_drew (S := (fun w' => w'.cell? ⟨w1.heap.size, 0, none⟩ = some (.slice b0 xs.length c0) ∧ w'.cell? ⟨wr.heap.size, 0, none⟩ = some (.string st) ∧ w'.cell? ⟨wr.heap.size, 1, none⟩ = some (.string fl))) (by kernel_rfl) ?_ (fun hHeld => ?_)
            · (first | go_keep | ((try dsimp only); go_keep))
            refine wpAnyH_takeD (i := 0) (d := 47) (v := .slice a3 W.length c3) rfl (by kernel_rfl) (by kernel_rfl) (by kernel_rfl) (fun _ _ _ h => h) (Or.inl ⟨by rfl, by intro w hSw; (try dsimp only at hSw); go_simp⟩) (by assumption) rfl ?_
            simp only [Act.put, List.setIfInBounds_toArray, List.set_cons_zero, List.set_cons_succ]
            refine wpAnyH_takeD (i := 1) (d := 48) (v := .pointer (some ⟨wr.heap.size, 0, none⟩)) rfl (by kernel_rfl) (by kernel_rfl) (by kernel_rfl) (fun _ _ _ h => h) (Or.inl ⟨by rfl, by intro w hSw; (try dsimp only at hSw); go_simp⟩) (by assumption) rfl ?_
            simp only [Act.put, List.setIfInBounds_toArray, List.set_cons_zero, List.set_cons_succ]
            refine wpAnyH_takeD (i := 2) (d := 49) (v := .string st) rfl (by kernel_rfl) (by kernel_rfl) (by kernel_rfl) (fun _ _ _ h => h) (Or.inl ⟨by rfl, by intro w hSw; (try dsimp only at hSw); go_simp⟩) (by assumption) rfl ?_
            simp only [Act.put, List.setIfInBounds_toArray, List.set_cons_zero, List.set_cons_succ]
            refine wpAnyH_takeD (i := 4) (d := 51) (v := .pointer (some ⟨w1.heap.size, 0, none⟩)) rfl (by kernel_rfl) (by kernel_rfl) (by kernel_rfl) (fun _ _ _ h => h) (Or.inl ⟨by rfl, by intro w hSw; (try dsimp only at hSw); go_simp⟩) (by assumption) rfl ?_
            simp only [Act.put, List.setIfInBounds_toArray, List.set_cons_zero, List.set_cons_succ]
            refine wpAnyH_takeD (i := 5) (d := 52) (v := .slice b0 xs.length c0) rfl (by kernel_rfl) (by kernel_rfl) (by kernel_rfl) (fun _ _ _ h => h) (Or.inl ⟨by rfl, by intro w hSw; (try dsimp only at hSw); go_simp⟩) (by assumption) rfl ?_
            simp only [Act.put, List.setIfInBounds_toArray, List.set_cons_zero, List.set_cons_succ]
            refine wpAnyH_takeD (i := 6) (d := 53) (v := .agg #[.string st, .string fl]) rfl (by kernel_rfl) (by kernel_rfl) (by kernel_rfl) (fun _ _ _ h => h) (Or.inl ⟨by rfl, by intro w hSw; (try dsimp only at hSw); go_simp⟩) (by assumption) rfl ?_
            simp only [Act.put, List.setIfInBounds_toArray, List.set_cons_zero, List.set_cons_succ]
            refine wpAnyH_takeD (i := 8) (d := 55) (v := .string s) rfl (by kernel_rfl) (by kernel_rfl) (by kernel_rfl) (fun _ _ _ h => h) (Or.inl ⟨by rfl, by intro w hSw; (try dsimp only at hSw); go_simp⟩) (by assumption) rfl ?_
            simp only [Act.put, List.setIfInBounds_toArray, List.set_cons_zero, List.set_cons_succ]
            refine wpAnyH_ready (rs := [3]) (by kernel_rfl) (by simp) ?_
            refine AllReadyH.cons rfl (fun K hK => ?_) AllReadyH.nil
            go_simp
            go_at_call 12; refine (mdHas_any _ _ W st ((HT3.out.below HC7.out).below HD7.out)).mono ?_; rintro e w8 ⟨rfl, hb8⟩; rw [HM1.out]; have HF8 : Hid (Below w7.heap.size w7 w8) := HD7.out.trans (hb8.mono HD7.out.size); clear hb8 y0 y1 y2; obtain ⟨y0, y1, y2⟩ := HY.out w8 HF8.out
            refine hK.out _ _ ?_ (fun hHeld => ?_)
            · (first | go_keep | ((try dsimp only); go_keep))
            clear hK K
            try simp only [Act.put, List.setIfInBounds_toArray, List.set_cons_zero, List.set_cons_succ]
            refine wpAnyH_ready (rs := [7]) (by kernel_rfl) (by simp) ?_
            refine AllReadyH.cons rfl (fun K hK => ?_) AllReadyH.nil
            go_simp
            have q := HF8; clear q; go_at_call 8; refine (implForms_any _ _ xs st fl (HA.out.below (HB7.out.trans (HF8.out.mono HB7.out.size))) HXF.out.1 HXF.out.2).mono ?_; rintro e w9 ⟨v9, rfl, ht9, hb9⟩; have HF9 : Hid (Below w7.heap.size w7 w9) := HF8.out.trans (hb9.mono HF8.out.size); clear hb9 y0 y1 y2; obtain ⟨y0, y1, y2⟩ := HY.out w9 HF9.out; have HT9 : Hid (TextsAt w9 v9 (formsT xs st fl)) := ht9.at; obtain ⟨a9, c9, rfl, -⟩ := ht9.at.form; clear ht9
            refine hK.out _ _ ?_ (fun hHeld => ?_)
            · (first | go_keep | ((try dsimp only); go_keep))
            clear hK K
            try simp only [Act.put, List.setIfInBounds_toArray, List.set_cons_zero, List.set_cons_succ]
            refine wpAnyH_ready (rs := [9]) (by kernel_rfl) (by simp) ?_
            refine AllReadyH.cons rfl (fun K hK => ?_) AllReadyH.nil
            go_simp
            have q := HF9; clear q; go_at_call 12; refine (mdHas_any _ _ (formsT xs st fl) s HT9.out).mono ?_; rintro e w10 ⟨rfl, hb10⟩; rw [HM2.out]; have HF10 : Hid (Below w7.heap.size w7 w10) := HF9.out.trans (hb10.mono HF9.out.size); clear hb10 y0 y1 y2; obtain ⟨y0, y1, y2⟩ := HY.out w10 HF10.out
            refine hK.out _ _ ?_ (fun hHeld => ?_)
            · (first | go_keep | ((try dsimp only); go_keep))
            clear hK K
            try simp only [Act.put, List.setIfInBounds_toArray, List.set_cons_zero, List.set_cons_succ]
            refine wpAnyH_takeD (i := 10) (d := 57) (v := .bool false) rfl (by kernel_rfl) (by kernel_rfl) (by kernel_rfl) (fun _ _ _ h => h) (Or.inl ⟨by rfl, by intro w hSw; (try dsimp only at hSw); go_simp⟩) (by assumption) rfl ?_
            simp only [Act.put, List.setIfInBounds_toArray, List.set_cons_zero, List.set_cons_succ]
            refine wpAnyH_takeD (i := 11) (d := 58) (v := .bool false) rfl (by kernel_rfl) (by kernel_rfl) (by kernel_rfl) (fun _ _ _ h => h) (Or.inl ⟨by rfl, by intro w hSw; (try dsimp only at hSw); go_simp⟩) (by assumption) rfl ?_
            simp only [Act.put, List.setIfInBounds_toArray, List.set_cons_zero, List.set_cons_succ]
            refine wpAnyH_takeD (i := 12) (d := 59) (v := .pointer (some ⟨wr.heap.size, 0, none⟩)) rfl (by kernel_rfl) (by kernel_rfl) (by kernel_rfl) (fun _ _ _ h => h) (Or.inl ⟨by rfl, by intro w hSw; (try dsimp only at hSw); go_simp⟩) (by assumption) rfl ?_
            simp only [Act.put, List.setIfInBounds_toArray, List.set_cons_zero, List.set_cons_succ]
            refine wpAnyH_takeD (i := 13) (d := 60) (v := .string st) rfl (by kernel_rfl) (by kernel_rfl) (by kernel_rfl) (fun _ _ _ h => h) (Or.inl ⟨by rfl, by intro w hSw; (try dsimp only at hSw); go_simp⟩) (by assumption) rfl ?_
            simp only [Act.put, List.setIfInBounds_toArray, List.set_cons_zero, List.set_cons_succ]
            refine wpAnyH_takeD (i := 14) (d := 61) (v := .string s) rfl (by kernel_rfl) (by kernel_rfl) (by kernel_rfl) (fun _ _ _ h => h) (Or.inl ⟨by rfl, by intro w hSw; (try dsimp only at hSw); go_simp⟩) (by assumption) rfl ?_
            simp only [Act.put, List.setIfInBounds_toArray, List.set_cons_zero, List.set_cons_succ]
            refine wpAnyH_takeD (i := 15) (d := 62) (v := .bool false) rfl (by kernel_rfl) (by kernel_rfl) (by kernel_rfl) (fun _ _ _ h => h) (Or.inl ⟨by rfl, by intro w hSw; (try dsimp only at hSw); go_simp⟩) (by assumption) rfl ?_
            simp only [Act.put, List.setIfInBounds_toArray, List.set_cons_zero, List.set_cons_succ]
            refine wpAnyH_takeD (i := 16) (d := 63) (v := .bool false) rfl (by kernel_rfl) (by kernel_rfl) (by kernel_rfl) (fun _ _ _ h => h) (Or.inl ⟨by rfl, by intro w hSw; (try dsimp only at hSw); go_simp⟩) (by assumption) rfl ?_
            simp only [Act.put, List.setIfInBounds_toArray, List.set_cons_zero, List.set_cons_succ]
            refine wpAnyH_takeD (i := 17) (d := 64) (v := undef) rfl (by kernel_rfl) (by kernel_rfl) (by kernel_rfl) (fun _ _ _ h => h) (Or.inr ⟨by rfl, rfl⟩) (by assumption) rfl ?_
            simp only [Act.put, List.setIfInBounds_toArray, List.set_cons_zero, List.set_cons_succ]
            refine wpAnyH_takeD (i := 18) (d := 65) (v := undef) rfl (by kernel_rfl) (by kernel_rfl) (by kernel_rfl) (fun _ _ _ h => h) (Or.inr ⟨by rfl, rfl⟩) (by assumption) rfl ?_
            simp only [Act.put, List.setIfInBounds_toArray, List.set_cons_zero, List.set_cons_succ]
            refine wpAnyH_takeD (i := 19) (d := 66) (v := undef) rfl (by kernel_rfl) (by kernel_rfl) (by kernel_rfl) (fun _ _ _ h => h) (Or.inr ⟨by rfl, rfl⟩) (by assumption) rfl ?_
            simp only [Act.put, List.setIfInBounds_toArray, List.set_cons_zero, List.set_cons_succ]
            refine wpAnyH_takeD (i := 20) (d := 67) (v := undef) rfl (by kernel_rfl) (by kernel_rfl) (by kernel_rfl) (fun _ _ _ h => h) (Or.inr ⟨by rfl, rfl⟩) (by assumption) rfl ?_
            simp only [Act.put, List.setIfInBounds_toArray, List.set_cons_zero, List.set_cons_succ]
            refine wpAnyH_takeD (i := 21) (d := 68) (v := .bool false) rfl (by kernel_rfl) (by kernel_rfl) (by kernel_rfl) (fun _ _ _ h => h) (Or.inl ⟨by rfl, by intro w hSw; (try dsimp only at hSw); go_simp⟩) (by assumption) rfl ?_
            simp only [Act.put, List.setIfInBounds_toArray, List.set_cons_zero, List.set_cons_succ]
            refine wpAnyH_takeD (i := 22) (d := 69) (v := .bool false) rfl (by kernel_rfl) (by kernel_rfl) (by kernel_rfl) (fun _ _ _ h => h) (Or.inl ⟨by rfl, by intro w hSw; (try dsimp only at hSw); go_simp⟩) (by assumption) rfl ?_
            simp only [Act.put, List.setIfInBounds_toArray, List.set_cons_zero, List.set_cons_succ]
            refine wpAnyH_done (by kernel_rfl) ?_ _
            go_wp2
            go_roundw
            case rel => exact ⟨k + 1, by omega, by go_num, HB6r.out.trans ((HR7.out.trans (HF10.out.mono HR7.out.size)).mono HB6r.out.size)⟩
            case measure => simp [intOf]; omega
      · have hke : k = es.length := by omega
        subst hke
        go_wp2
        go_ret
        exact ⟨rfl, HB2.out.trans (HB.out.mono HB2.out.size)⟩
end Go.Proofs.Ythikcililececaa
