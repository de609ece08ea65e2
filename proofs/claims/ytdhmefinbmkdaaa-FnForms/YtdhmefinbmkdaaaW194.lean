/-
  FnForms.
-/
import Derived.Test.YtdhmefinbmkdaaaGW193
import Derived.Test.YtdhmefinbmkdaaaGW170
import Derived.Test.YtdhmefinbmkdaaaGW92
import Derived.Test.YtdhmefinbmkdaaaW133
import Derived.Test.YtdhmefinbmkdaaaGW27
namespace Go.Proofs.Ytdhmefinbmkdaaa
open Go.RowKit
set_option linter.unusedVariables false
/-- An operation is taken first; the slot that it writes is told. -/
theorem wpAnyH_takeD {P : Program} {md : Region.Mode} {ops : Array Oper} {Q : Exit → Act → World → Prop} {S : World → Prop} {i d : Nat} {oi : Oper} {v : Value} {fuel : Nat} {listed : Array Bool} {a : Act} {w : World} (hi : ops[i]? = some oi)
    (hs : Region.noSelect ops = true) (hf : Region.free md ops listed i = true) (hr : (Region.ready md ops listed).contains i = true)
    (hQ : ∀ c a w, Q (.panic c) (a.put oi.dst v) w → Q (.panic c) a w) (hy : YieldsIf P ops S oi v a) (hS : S w) (hd : oi.dst = some d)
    (h : wpAnyH P md ops Q S fuel (listed.setIfInBounds i true) (a.put (some d) v) w) : wpAnyH P md ops Q S (fuel + 1) listed a w :=
  wpAnyH_take hi hs hf hr hQ hy hS (by rw [hd]; exact h)
theorem memT_hasW3 (xs : List ByteArray) (s : ByteArray) : memT xs s = hasW xs s := by
  rw [Bool.eq_iff_iff, memT_iff, hasW_iff]
theorem asc_step3 {l : List ByteArray} (h : Asc l) {x y : ByteArray} {k : Nat} (hx : l[k]? = some x) (hy : l[k + 1]? = some y) : Op.bytesLess x.toList y.toList = true := by
  obtain ⟨h1, e1⟩ := List.getElem?_eq_some_iff.1 hx
  obtain ⟨h2, e2⟩ := List.getElem?_eq_some_iff.1 hy
  have := List.pairwise_iff_getElem.1 h k (k + 1) h1 h2 (by omega)
  rw [e1, e2] at this
  exact this
theorem TextsAt.drew3 {w : World} {v : Value} {xs : List ByteArray} (h : TextsAt w v xs) : TextsAt w.drew v xs := h.below (Below.refl _ _).drew
theorem bare3 {st fl : ByteArray} (h : entT st fl = true) : entT st ⟨#[]⟩ = true := by
  unfold entT at h ⊢
  rw [Bool.and_eq_true] at h ⊢
  exact ⟨h.1, by decide⟩
theorem textsAt_one {w : World} {B : Nat} {t : TypeId} {fz : Nat × Nat} {s : ByteArray} (h : w.heap[B]? = some (.cells #[.string s] t fz)) (hs : s.size ≤ maxLen) : TextsAt w (.slice (some ⟨B, 0, none⟩) 1 1) [s] := by
  refine ⟨some ⟨B, 0, none⟩, 1, rfl, Nat.le_refl _, by unfold maxLen; simp, fun i x hx => ?_, fun _ => ⟨B, 0, rfl, lt_of_block h, fun i x hx => ?_⟩⟩
  · match i with
    | 0 => simp at hx; rw [← hx]; exact hs
    | i + 1 => simp at hx
  · match i with
    | 0 => simp at hx; rw [← hx, cell_of_row _ _ _ _ _ _ h]; rfl
    | i + 1 => simp at hx
/-- What is found among the first flags. -/
def flagTo (fl f : ByteArray) (k : Nat) : Bool := (List.range k).any fun i => (fl.extract i (i + 1)).toList == f.toList
theorem flagTo_next (fl f : ByteArray) (k : Nat) : flagTo fl f (k + 1) = (flagTo fl f k || ((fl.extract k (k + 1)).toList == f.toList)) := by
  unfold flagTo
  rw [List.range_succ, List.any_append]
  simp
theorem forms_facts {xs : List Aff} {st fl : ByteArray} (h : (formsT xs st fl).length ≠ 0) : affsT xs = true ∧ entT st fl = true ∧ formsT xs st fl = formsL xs st fl := by
  unfold formsT at h ⊢
  by_cases e : (affsT xs && entT st fl) = true
  · rw [if_pos e]
    rw [Bool.and_eq_true] at e
    exact ⟨e.1, e.2, rfl⟩
  · rw [if_neg e] at h
    exact absurd rfl h
set_option maxRecDepth 100000 in
set_option maxHeartbeats 4000000 in
theorem fnForms_walk (a : Option Addr) (len cap : Nat) (zs : List Int) (w : World) (h : IsRow .u8 w a len cap zs) :
    Calls Try.prog 3 #[.slice a len cap] w fun e w' => e = .returned (.bool true) ∧ Below w.heap.size w w' := by
  by_cases h1 : (1048576 : Int) < (len : Int)
  · clear h
    go_enter Try.func3, Try.ntmps3
    go_wp2
    go_ret
    exact ⟨rfl, Below.refl _ _⟩
  have HI : Hid (IsRow .u8 w a len cap zs) := h
  clear h
  go_enter Try.func3, Try.ntmps3
  go_wp2_with fail
  refine (drawForms_any w a len cap zs HI.out).mono ?_
  rintro e w1 ⟨va, xs, st, fl, rfl, hva, hst, hfl, hx5, hsm, hb1⟩
  have HMS : Hid (st.size ≤ maxLen) := by show _ ≤ _; unfold maxLen; omega
  have HMF : Hid (fl.size ≤ maxLen) := by show _ ≤ _; unfold maxLen; omega
  obtain ⟨b0, c0, rfl, -⟩ := hva.form
  obtain ⟨w2, hw2⟩ : ∃ x, w1.alloc (.cells #[.string st, .string fl] 25) = x := ⟨_, rfl⟩
  have hb12 : Below w1.heap.size w1 w2 := by rw [← hw2]; exact (Below.refl w1.heap.size w1).alloc (Nat.le_refl _) _
  have HA : Hid (AffsAt w2 (.slice b0 xs.length c0) xs) := hva.below hb12
  have HB2 : Hid (Below w.heap.size w w2) := hb1.trans (hb12.mono hb1.size)
  have hz2 : w1.heap.size < w2.heap.size := by rw [← hw2]; simp
  have hbx : w2.heap[w1.heap.size]? = some (.cells #[.string st, .string fl] 25 (0, 0)) := by rw [← hw2]; exact heap_alloc_last w1 _
  have HX : Hid (∀ w', Below w2.heap.size w2 w' → w'.cell? ⟨w1.heap.size, 0, none⟩ = some (.string st) ∧ w'.cell? ⟨w1.heap.size, 1, none⟩ = some (.string fl)) := fun w' hb => ⟨by rw [cell_of_row _ _ 0 _ _ _ ((hb.block _ hz2).trans hbx)]; rfl, by rw [cell_of_row _ _ 1 _ _ _ ((hb.block _ hz2).trans hbx)]; rfl⟩
  clear hva hb1 hb12 hbx hsm
  obtain ⟨x0, x1⟩ := HX.out w2 (Below.refl _ _)
  go_wp2_with fail
  clear hw2
  refine (implForms_any w2 _ xs st fl HA.out HMS.out HMF.out).mono ?_
  rintro e w3 ⟨v3, rfl, ht3, hb3⟩
  have HB3 : Hid (Below w2.heap.size w2 w3) := hb3
  have hlen := (formsT_small xs st fl).1
  have HFF : Hid ((formsT xs st fl).length ≠ 0 → affsT xs = true ∧ entT st fl = true ∧ formsT xs st fl = formsL xs st fl) := forms_facts
  have HASC : Hid (Asc (formsT xs st fl)) := formsT_asc xs st fl
  obtain ⟨L, hL⟩ : ∃ L, formsT xs st fl = L := ⟨_, rfl⟩
  have HLL : Hid (formsT xs st fl = L) := hL
  rw [hL] at ht3 hlen HFF HASC
  have HT3 : Hid (TextsAt w3 v3 L) := ht3.at
  obtain ⟨a3, c3, rfl, hc3, -⟩ := ht3.at.form
  clear hb3 x0 x1 ht3 hL
  obtain ⟨x0, x1⟩ := HX.out w3 HB3.out
  go_wp2_with fail
  refine (specForms_any w3 _ xs st fl (HA.out.below HB3.out) HMS.out HMF.out).mono ?_
  rintro e w4 ⟨v4, rfl, ht4, hb4⟩
  rw [HLL.out] at ht4
  obtain ⟨a4, c4, rfl, -⟩ := ht4.form
  have HT4 : Hid (TextsAt w4 (.slice a4 L.length c4) L) := ht4
  have HC4 : Hid (Below w3.heap.size w3 w4) := hb4
  have HB4 : Hid (Below w2.heap.size w2 w4) := HB3.out.trans (hb4.mono HB3.out.size)
  clear hb4 ht4 x0 x1
  go_wp2_with fail
  refine (mdTexts_same _ _ _ L (HT3.out.below HC4.out) HT4.out).mono ?_
  rintro e w5 ⟨rfl, hb5⟩
  have HC5 : Hid (Below w3.heap.size w3 w5) := HC4.out.trans (hb5.mono HC4.out.size)
  have HB5 : Hid (Below w2.heap.size w2 w5) := HB4.out.trans (hb5.mono HB4.out.size)
  clear hb5
  obtain ⟨x0, x1⟩ := HX.out w5 HB5.out
  by_cases hne : L.length = 0
  · have hn0 : ((L.length : Int) == 0) = true := by rw [hne]; rfl
    clear hne
    go_wp2_with fail
    refine (specForms_any w5 _ xs st fl (HA.out.below HB5.out) HMS.out HMF.out).mono ?_
    rintro e w7 ⟨v7, rfl, ht7, hb7⟩
    rw [HLL.out] at ht7
    obtain ⟨a7, c7, rfl, -⟩ := ht7.form
    have HT7 : Hid (TextsAt w7 (.slice a7 L.length c7) L) := ht7
    have HC7 : Hid (Below w3.heap.size w3 w7) := HC5.out.trans (hb7.mono HC5.out.size)
    have HB7 : Hid (Below w2.heap.size w2 w7) := HB5.out.trans (hb7.mono HB5.out.size)
    clear hb7 ht7 x0 x1
    go_wp2_with fail
    refine (mdTexts_same _ _ _ L (HT3.out.below HC7.out) HT7.out).mono ?_
    rintro e w8 ⟨rfl, hb8⟩
    have HB8 : Hid (Below w2.heap.size w2 w8) := HB7.out.trans (hb8.mono HB7.out.size)
    clear hb8
    go_wp2
    go_ret
    exact ⟨rfl, HB2.out.trans (HB8.out.mono HB2.out.size)⟩
  · have hn0 : ((L.length : Int) == 0) = false := by rw [beq_eq_false_iff_ne]; omega
    obtain ⟨k1, k2, k3⟩ := HFF.out hne
    have HAF : Hid (affsT xs = true) := k1
    have HEN : Hid (entT st fl = true) := k2
    have HLF : Hid (L = formsL xs st fl) := k3
    have HWK : Hid (wok st = true) := by have q := k2; unfold entT at q; rw [Bool.and_eq_true] at q; exact q.1
    clear k1 k2 k3 x0 x1 hne
    go_wp2
    go_loopw [6] (fun i wr => ∃ (k : Nat), k ≤ xs.length ∧ i = .int .i64 k ∧ Below w5.heap.size w5 wr) (fun i _ => xs.length - (intOf i).toNat)
    case atStart => exact ⟨0, Nat.zero_le _, rfl, Below.refl _ _⟩
    case round =>
      obtain ⟨k, hk, rfl, hb⟩ := hrel
      have HB : Hid (Below w2.heap.size w2 wr) := HB5.out.trans (hb.mono HB5.out.size)
      have HC : Hid (Below w3.heap.size w3 wr) := HC5.out.trans (hb.mono HC5.out.size)
      have HB5r : Hid (Below w5.heap.size w5 wr) := hb
      clear hb
      by_cases hlt : k < xs.length
      · obtain ⟨b, off, cap2, x, hv, hbl, hx, hxf, e0, e1, e2, e3, e4⟩ := (HA.out.below HB.out).at hlt
        cases hv
        obtain ⟨f, fr, s', ad, wh⟩ := x
        have HXk : Hid (xs[k]? = some ⟨f, fr, s', ad, wh⟩) := hx
        have HXF : Hid ((⟨f, fr, s', ad, wh⟩ : Aff).fits) := hxf
        simp only at e0 e1 e2 e3 e4
        obtain ⟨x0, x1⟩ := HX.out wr HB.out
        have i0 : (0 : Int) ≤ (k : Int) := by omega
        have i1 : (k : Int) < (xs.length : Int) := by omega
        have hzw : w1.heap.size < wr.heap.size := Nat.lt_of_lt_of_le hz2 HB.out.size
        clear hx hxf
        go_wp2_with fail
        go_region_held3 (fun w' => w'.cell? ⟨w1.heap.size, 0, none⟩ = some (.string st) ∧ w'.cell? ⟨b, off + k * 5, none⟩ = some (.string f) ∧ w'.cell? ⟨b, off + k * 5 + 1, none⟩ = some (.bool fr) ∧ w'.cell? ⟨b, off + k * 5 + 2, none⟩ = some (.string s') ∧ w'.cell? ⟨b, off + k * 5 + 3, none⟩ = some (.string ad) ∧ w'.cell? ⟨b, off + k * 5 + 4, none⟩ = some (.string wh)) (go_keep)
          ((go_at_call 8; refine (implAffixDo_any ⟨f, fr, s', ad, wh⟩ st _ HXF.out HMS.out).mono ?_; rintro e w9 ⟨rfl, hb9⟩; have HB9 : Hid (Below wr.heap.size wr w9) := (Below.drew (Below.refl wr.heap.size wr)).trans hb9; have y0 := (HB9.out.cell (p := ⟨w1.heap.size, 0, none⟩) hzw).trans x0; have y1 := (HB9.out.cell (p := ⟨b, off + k * 5, none⟩) hbl).trans e0; have y2 := (HB9.out.cell (p := ⟨b, off + k * 5 + 1, none⟩) hbl).trans e1; have y3 := (HB9.out.cell (p := ⟨b, off + k * 5 + 2, none⟩) hbl).trans e2; have y4 := (HB9.out.cell (p := ⟨b, off + k * 5 + 3, none⟩) hbl).trans e3; have y5 := (HB9.out.cell (p := ⟨b, off + k * 5 + 4, none⟩) hbl).trans e4; clear hb9 x0 x1 e0 e1 e2 e3 e4))
        obtain ⟨X, ok, hdo⟩ : ∃ X ok, doT ⟨f, fr, s', ad, wh⟩ st = (X, ok) := ⟨_, _, rfl⟩
        have HDO : Hid (doT ⟨f, fr, s', ad, wh⟩ st = (X, ok)) := hdo
        rw [hdo]
        clear hdo
        have HBb : Hid (b < w9.heap.size) := Nat.lt_of_lt_of_le hbl HB9.out.size
        have HY1 : Hid (w9.cell? ⟨b, off + k * 5, none⟩ = some (.string f)) := y1
        clear y0 y1 y2 y3 y4 y5 hbl
        have HB29 : Hid (Below w2.heap.size w2 w9) := HB.out.trans (HB9.out.mono HB.out.size)
        go_wp2
        go_loopw [9, 10] (fun hs i wi => ∃ (j : Nat), j ≤ fl.size ∧ hs = .bool (flagTo fl f j) ∧ i = .int .i64 j ∧ Below w9.heap.size w9 wi) (fun _ i _ => fl.size - (intOf i).toNat)
        case atStart => exact ⟨0, Nat.zero_le _, rfl, rfl, Below.refl _ _⟩
        case round =>
          rename World => wi
          obtain ⟨j, hj, rfl, rfl, hb⟩ := hrel
          have HBi : Hid (Below w9.heap.size w9 wi) := hb
          clear hb
          obtain ⟨x0, x1⟩ := HX.out wi (HB29.out.trans (HBi.out.mono HB29.out.size))
          by_cases hlj : j < fl.size
          · have y1 : wi.cell? ⟨b, off + k * 5, none⟩ = some (.string f) := (HBi.out.cell (p := ⟨b, off + k * 5, none⟩) HBb.out).trans HY1.out
            have HNX : Hid (flagTo fl f (j + 1) = (flagTo fl f j || ((fl.extract j (j + 1)).toList == f.toList))) := flagTo_next fl f j
            have j0 : (0 : Int) ≤ (j : Int) := by omega
            have j1 : (j : Int) + 1 ≤ (fl.size : Int) := by omega
            have j2 : (j : Int) ≤ (j : Int) + 1 := by omega
            have r2 : IntKind.i64.wrap ((j : Int) + 1) = (j : Int) + 1 := IntWalk.i64_in _ (by omega)
            cases hh : flagTo fl f j with
            | true =>
              rw [hh, Bool.true_or] at HNX
              go_wp2_with fail
              go_quiet (fail)
              go_wp2
              go_roundw
              case rel => exact ⟨j + 1, by omega, by rw [HNX.out], by go_num, below_drewN HBi.out _⟩
              case measure => simp [intOf]; omega
            | false =>
              rw [hh, Bool.false_or] at HNX
              obtain ⟨part, hpart⟩ : ∃ x, fl.extract j (j + 1) = x := ⟨_, rfl⟩
              rw [hpart] at HNX
              cases hq : (part.toList == f.toList) with
              | true =>
                rw [hq] at HNX
                go_wp2_with fail
                go_quiet (fail)
                go_wp2
                go_roundw
                case rel => exact ⟨j + 1, by omega, by rw [HNX.out], by go_num, below_drewN HBi.out _⟩
                case measure => simp [intOf]; omega
              | false =>
                rw [hq] at HNX
                go_wp2_with fail
                go_quiet (fail)
                go_wp2
                go_roundw
                case rel => exact ⟨j + 1, by omega, by rw [HNX.out], by go_num, below_drewN HBi.out _⟩
                case measure => simp [intOf]; omega
          · have hje : j = fl.size := by omega
            subst hje
            have HFI : Hid (flagTo fl f fl.size = flagIn fl f) := rfl
            obtain ⟨hs, hhs⟩ : ∃ x, flagTo fl f fl.size = x := ⟨_, rfl⟩
            rw [hhs]
            rw [hhs] at HFI
            clear hhs
            have HNXT : Hid (∀ w', Below wi.heap.size wi w' → Below w5.heap.size w5 w') := fun w' hb => HB5r.out.trans ((HB9.out.trans ((HBi.out.trans (hb.mono HBi.out.size)).mono HB9.out.size)).mono HB5r.out.size)
            cases ok with
            | false =>
              go_wp2
              go_roundw
              case rel => exact ⟨k + 1, by omega, by go_num, HNXT.out _ (Below.refl _ _)⟩
              case measure => simp [intOf]; omega
            | true =>
              cases hs with
              | false =>
                go_wp2
                go_roundw
                case rel => exact ⟨k + 1, by omega, by go_num, HNXT.out _ (Below.refl _ _)⟩
                case measure => simp [intOf]; omega
              | true =>
                have HM : Hid (memT L X = true) := by
                  have q := affix_form HXk.out (st := st) (fl := fl) HFI.out.symm (by rw [HDO.out])
                  rw [HDO.out, ← HLF.out] at q
                  show _ = _
                  rw [memT_hasW3]
                  exact (hasW_iff _ _).2 q
                have HTi : Hid (TextsAt wi (.slice a3 L.length c3) L) := HT3.out.below (HC.out.trans ((HB9.out.trans (HBi.out.mono HB9.out.size)).mono HC.out.size))
                go_wp2_with fail
                refine (mdHas_any _ _ L X HTi.out).mono ?_
                rintro e w12 ⟨rfl, hb12⟩
                rw [HM.out]
                have HB12 : Hid (Below w5.heap.size w5 w12) := HNXT.out _ hb12
                clear hb12
                go_wp2
                go_roundw
                case rel => exact ⟨k + 1, by omega, by go_num, HB12.out⟩
                case measure => simp [intOf]; omega
      · have hke : k = xs.length := by omega
        subst hke
        go_wp2
        go_loopw [11] (fun i wi => ∃ (j : Nat), j ≤ L.length ∧ i = .int .i64 j ∧ Below wr.heap.size wr wi) (fun i _ => L.length - (intOf i).toNat)
        case atStart => exact ⟨0, Nat.zero_le _, rfl, Below.refl _ _⟩
        case round =>
          rename World => wi
          obtain ⟨j, hj, rfl, hb⟩ := hrel
          have HBi : Hid (Below wr.heap.size wr wi) := hb
          clear hb
          have HTi : Hid (TextsAt wi (.slice a3 L.length c3) L) := HT3.out.below (HC.out.trans (HBi.out.mono HC.out.size))
          by_cases hlj : j < L.length
          · obtain ⟨b, off, cap2, y, hv, _, hy, hym, c1⟩ := HTi.out.at hlj
            cases hv
            have hwy : wok y = true := formsL_wok HWK.out y (by rw [← HLF.out]; exact List.mem_of_getElem? hy)
            have HYM : Hid (y.size ≤ maxLen) := hym
            have i0 : (0 : Int) ≤ (j : Int) := by omega
            have i1 : (j : Int) < (L.length : Int) := by omega
            by_cases hj0 : j = 0
            · subst hj0
              rw [Nat.add_zero] at c1
              clear hy hym
              go_wp2_with fail
              go_quiet ((first | (go_at_call 10; refine (wordOk_any _ _ HYM.out).mono ?_; rintro e w'' ⟨rfl, rfl⟩; rw [hwy]; exact ⟨rfl, _, rfl⟩)))
              go_wp2
              go_roundw
              case rel => exact ⟨0 + 1, by omega, by go_num, below_drewN HBi.out _⟩
              case measure => simp [intOf]; omega
            · obtain ⟨m, rfl⟩ : ∃ m, j = m + 1 := ⟨j - 1, by omega⟩
              obtain ⟨b', off', cap3, x, hv', _, hx, _, c2⟩ := HTi.out.at (k := m) (by omega)
              cases hv'
              have hxy := asc_step3 HASC.out hx hy
              have hp1 : (0 : Int) < ((m + 1 : Nat) : Int) := by omega
              have hp2 : 0 < m + 1 := by omega
              have r1 : IntKind.i64.wrap (((m + 1 : Nat) : Int) - 1) = (m : Int) := by rw [IntWalk.i64_in _ (by omega)]; omega
              have j0 : (0 : Int) ≤ (m : Int) := by omega
              have j1 : (m : Int) < (L.length : Int) := by omega
              clear hx hy hym
              go_wp2_with fail
              go_quiet ((first | (go_at_call 10; refine (wordOk_any _ _ HYM.out).mono ?_; rintro e w'' ⟨rfl, rfl⟩; rw [hwy]; exact ⟨rfl, _, rfl⟩)))
              go_wp2
              go_roundw
              case rel => exact ⟨m + 1 + 1, by omega, by go_num, below_drewN HBi.out _⟩
              case measure => simp [intOf]; omega
          · have hje : j = L.length := by omega
            subst hje
            have HB2i : Hid (Below w2.heap.size w2 wi) := HB.out.trans (HBi.out.mono HB.out.size)
            have HFA : Hid (formsT xs st ⟨#[]⟩ = [st]) := by
              show _ = _
              unfold formsT
              rw [HAF.out, bare3 HEN.out, Bool.and_self, if_pos rfl]
              exact forms_alone xs st
            have HMS2 : Hid (memT L st = true) := by show _ = _; rw [memT_hasW3]; exact (hasW_iff _ _).2 (by rw [HLF.out]; exact stem_own)
            obtain ⟨x0, x1⟩ := HX.out wi HB2i.out
            have HY : Hid (∀ w', Below wi.heap.size wi w' → w'.cell? ⟨w1.heap.size, 0, none⟩ = some (.string st)) := fun w' hb => (HX.out w' (HB2i.out.trans (hb.mono HB2i.out.size))).1
            have HDi : Hid (Below wi.heap.size wi wi.drew) := (Below.refl _ _).drew
            clear x1
            go_wp2_with fail
            refine wp_region_held_drew (S := (fun w' => w'.cell? ⟨w1.heap.size, 0, none⟩ = some (.string st))) (by kernel_rfl) ?_ (fun hHeld => ?_)
            · (first | go_keep | ((try dsimp only); go_keep))
            refine wpAnyH_takeD (i := 0) (d := 115) (v := .slice a3 L.length c3) rfl (by kernel_rfl) (by kernel_rfl) (by kernel_rfl) (fun _ _ _ h => h) (Or.inl ⟨by rfl, by intro w hSw; (try dsimp only at hSw); go_simp⟩) (by assumption) rfl ?_
            simp only [Act.put, List.setIfInBounds_toArray, List.set_cons_zero, List.set_cons_succ]
            refine wpAnyH_takeD (i := 1) (d := 116) (v := .pointer (some ⟨w1.heap.size, 0, none⟩)) rfl (by kernel_rfl) (by kernel_rfl) (by kernel_rfl) (fun _ _ _ h => h) (Or.inl ⟨by rfl, by intro w hSw; (try dsimp only at hSw); go_simp⟩) (by assumption) rfl ?_
            simp only [Act.put, List.setIfInBounds_toArray, List.set_cons_zero, List.set_cons_succ]
            refine wpAnyH_takeD (i := 2) (d := 117) (v := .string st) rfl (by kernel_rfl) (by kernel_rfl) (by kernel_rfl) (fun _ _ _ h => h) (Or.inl ⟨by rfl, by intro w hSw; (try dsimp only at hSw); go_simp⟩) (by assumption) rfl ?_
            simp only [Act.put, List.setIfInBounds_toArray, List.set_cons_zero, List.set_cons_succ]
            refine wpAnyH_ready (rs := [3]) (by kernel_rfl) (by simp) ?_
            refine AllReadyH.cons rfl (fun K hK => ?_) AllReadyH.nil
            go_simp
            refine (mdHas_any _ _ L st (HTi.out.below HDi.out)).mono ?_; rintro e w12 ⟨rfl, hb12⟩; rw [HMS2.out]; have HF12 : Hid (Below wi.heap.size wi w12) := HDi.out.trans (hb12.mono HDi.out.size); clear hb12 x0; have x0 := HY.out w12 HF12.out
            refine hK.out _ _ ?_ (fun hHeld => ?_)
            · (first | go_keep | ((try dsimp only); go_keep))
            clear hK K
            try simp only [Act.put, List.setIfInBounds_toArray, List.set_cons_zero, List.set_cons_succ]
            refine wpAnyH_takeD (i := 4) (d := 119) (v := .bool true) rfl (by kernel_rfl) (by kernel_rfl) (by kernel_rfl) (fun _ _ _ h => h) (Or.inl ⟨by rfl, by intro w hSw; (try dsimp only at hSw); go_simp⟩) (by assumption) rfl ?_
            simp only [Act.put, List.setIfInBounds_toArray, List.set_cons_zero, List.set_cons_succ]
            refine wpAnyH_takeD (i := 5) (d := 120) (v := .slice b0 xs.length c0) rfl (by kernel_rfl) (by kernel_rfl) (by kernel_rfl) (fun _ _ _ h => h) (Or.inl ⟨by rfl, by intro w hSw; (try dsimp only at hSw); go_simp⟩) (by assumption) rfl ?_
            simp only [Act.put, List.setIfInBounds_toArray, List.set_cons_zero, List.set_cons_succ]
            refine wpAnyH_takeD (i := 6) (d := 121) (v := .pointer (some ⟨w1.heap.size, 0, none⟩)) rfl (by kernel_rfl) (by kernel_rfl) (by kernel_rfl) (fun _ _ _ h => h) (Or.inl ⟨by rfl, by intro w hSw; (try dsimp only at hSw); go_simp⟩) (by assumption) rfl ?_
            simp only [Act.put, List.setIfInBounds_toArray, List.set_cons_zero, List.set_cons_succ]
            refine wpAnyH_takeD (i := 7) (d := 122) (v := .string st) rfl (by kernel_rfl) (by kernel_rfl) (by kernel_rfl) (fun _ _ _ h => h) (Or.inl ⟨by rfl, by intro w hSw; (try dsimp only at hSw); go_simp⟩) (by assumption) rfl ?_
            simp only [Act.put, List.setIfInBounds_toArray, List.set_cons_zero, List.set_cons_succ]
            refine wpAnyH_takeD (i := 8) (d := 123) (v := .agg #[.string st, .string ⟨#[]⟩]) rfl (by kernel_rfl) (by kernel_rfl) (by kernel_rfl) (fun _ _ _ h => h) (Or.inl ⟨by rfl, by intro w hSw; (try dsimp only at hSw); go_simp⟩) (by assumption) rfl ?_
            simp only [Act.put, List.setIfInBounds_toArray, List.set_cons_zero, List.set_cons_succ]
            refine wpAnyH_takeD (i := 10) (d := 125) (v := .pointer (some ⟨w1.heap.size, 0, none⟩)) rfl (by kernel_rfl) (by kernel_rfl) (by kernel_rfl) (fun _ _ _ h => h) (Or.inl ⟨by rfl, by intro w hSw; (try dsimp only at hSw); go_simp⟩) (by assumption) rfl ?_
            simp only [Act.put, List.setIfInBounds_toArray, List.set_cons_zero, List.set_cons_succ]
            refine wpAnyH_takeD (i := 11) (d := 126) (v := .string st) rfl (by kernel_rfl) (by kernel_rfl) (by kernel_rfl) (fun _ _ _ h => h) (Or.inl ⟨by rfl, by intro w hSw; (try dsimp only at hSw); go_simp⟩) (by assumption) rfl ?_
            simp only [Act.put, List.setIfInBounds_toArray, List.set_cons_zero, List.set_cons_succ]
            refine wpAnyH_ready (rs := [9, 12]) (by kernel_rfl) (by simp) ?_
            refine AllReadyH.cons rfl (fun K hK => ?_) (AllReadyH.cons rfl (fun K hK => ?_) AllReadyH.nil)
            · go_simp
              refine (implForms_any _ _ xs st ⟨#[]⟩ (HA.out.below (HB2i.out.trans (HF12.out.mono HB2i.out.size))) HMS.out (Nat.zero_le _)).mono ?_; rintro e w13 ⟨v13, rfl, ht13, hb13⟩; rw [HFA.out] at ht13; have HT13 : Hid (TextsAt w13 v13 [st]) := ht13.at; obtain ⟨a13, c13, rfl, -⟩ := ht13.at.form; have HG13 : Hid (Below _ _ w13) := hb13; have HF13 : Hid (Below wi.heap.size wi w13) := HF12.out.trans (hb13.mono HF12.out.size); clear hb13 ht13 x0; have x0 := HY.out w13 HF13.out
              refine hK.out _ _ ?_ (fun hHeld => ?_)
              · (first | go_keep | ((try dsimp only); go_keep))
              clear hK K
              try simp only [Act.put, List.setIfInBounds_toArray, List.set_cons_zero, List.set_cons_succ]
              refine wpAnyH_ready (rs := [12]) (by kernel_rfl) (by simp) ?_
              refine AllReadyH.cons rfl (fun K hK => ?_) AllReadyH.nil
              go_simp
              obtain ⟨w14, hw14⟩ : ∃ x, w13.alloc (.cells #[.string st] 9) = x := ⟨_, rfl⟩
              have HG14 : Hid (Below w13.heap.size w13 w14) := by rw [← hw14]; exact (Below.refl _ _).alloc (Nat.le_refl _) _
              have HF14 : Hid (Below wi.heap.size wi w14) := HF13.out.trans (HG14.out.mono HF13.out.size)
              have HO14 : Hid (TextsAt w14 (.slice (some ⟨w13.heap.size, 0, none⟩) 1 1) [st]) := by rw [← hw14]; exact textsAt_one (heap_alloc_last w13 _) HMS.out
              rw [hw14]
              clear x0 hw14
              have x0 := HY.out w14 HF14.out
              refine hK.out _ _ ?_ (fun hHeld => ?_)
              · (first | go_keep | ((try dsimp only); go_keep))
              clear hK K
              try simp only [Act.put, List.setIfInBounds_toArray, List.set_cons_zero, List.set_cons_succ]
              refine wpAnyH_ready (rs := [13]) (by kernel_rfl) (by simp) ?_
              refine AllReadyH.cons rfl (fun K hK => ?_) AllReadyH.nil
              go_simp
              refine (mdTexts_same _ _ _ [st] (HT13.out.below HG14.out) (HO14.out)).mono ?_; rintro e w15 ⟨rfl, hb15⟩; have HF15 : Hid (Below wi.heap.size wi w15) := HF14.out.trans (hb15.mono HF14.out.size); clear hb15 x0; have x0 := HY.out w15 HF15.out
              refine hK.out _ _ ?_ (fun hHeld => ?_)
              · (first | go_keep | ((try dsimp only); go_keep))
              clear hK K
              try simp only [Act.put, List.setIfInBounds_toArray, List.set_cons_zero, List.set_cons_succ]
              refine wpAnyH_takeD (i := 14) (d := 129) (v := .bool true) rfl (by kernel_rfl) (by kernel_rfl) (by kernel_rfl) (fun _ _ _ h => h) (Or.inl ⟨by rfl, by intro w hSw; (try dsimp only at hSw); go_simp⟩) (by assumption) rfl ?_
              simp only [Act.put, List.setIfInBounds_toArray, List.set_cons_zero, List.set_cons_succ]
              refine wpAnyH_takeD (i := 15) (d := 2) (v := .bool true) rfl (by kernel_rfl) (by kernel_rfl) (by kernel_rfl) (fun _ _ _ h => h) (Or.inl ⟨by rfl, by intro w hSw; (try dsimp only at hSw); go_simp⟩) (by assumption) rfl ?_
              simp only [Act.put, List.setIfInBounds_toArray, List.set_cons_zero, List.set_cons_succ]
              refine wpAnyH_done (by kernel_rfl) ?_ _
              go_wp2
              go_ret
              exact ⟨rfl, HB2.out.trans ((HB2i.out.trans (HF15.out.mono HB2i.out.size)).mono HB2.out.size)⟩
            · go_simp
              obtain ⟨w13, hw13⟩ : ∃ x, w12.alloc (.cells #[.string st] 9) = x := ⟨_, rfl⟩
              have HG13 : Hid (Below w12.heap.size w12 w13) := by rw [← hw13]; exact (Below.refl _ _).alloc (Nat.le_refl _) _
              have HF13 : Hid (Below wi.heap.size wi w13) := HF12.out.trans (HG13.out.mono HF12.out.size)
              have HO13 : Hid (TextsAt w13 (.slice (some ⟨w12.heap.size, 0, none⟩) 1 1) [st]) := by rw [← hw13]; exact textsAt_one (heap_alloc_last w12 _) HMS.out
              rw [hw13]
              clear x0 hw13
              have x0 := HY.out w13 HF13.out
              refine hK.out _ _ ?_ (fun hHeld => ?_)
              · (first | go_keep | ((try dsimp only); go_keep))
              clear hK K
              try simp only [Act.put, List.setIfInBounds_toArray, List.set_cons_zero, List.set_cons_succ]
              refine wpAnyH_ready (rs := [9]) (by kernel_rfl) (by simp) ?_
              refine AllReadyH.cons rfl (fun K hK => ?_) AllReadyH.nil
              go_simp
              refine (implForms_any _ _ xs st ⟨#[]⟩ (HA.out.below (HB2i.out.trans (HF13.out.mono HB2i.out.size))) HMS.out (Nat.zero_le _)).mono ?_; rintro e w14 ⟨v14, rfl, ht14, hb14⟩; rw [HFA.out] at ht14; have HT14 : Hid (TextsAt w14 v14 [st]) := ht14.at; obtain ⟨a14, c14, rfl, -⟩ := ht14.at.form; have HG14 : Hid (Below _ _ w14) := hb14; have HF14 : Hid (Below wi.heap.size wi w14) := HF13.out.trans (hb14.mono HF13.out.size); clear hb14 ht14 x0; have x0 := HY.out w14 HF14.out
              refine hK.out _ _ ?_ (fun hHeld => ?_)
              · (first | go_keep | ((try dsimp only); go_keep))
              clear hK K
              try simp only [Act.put, List.setIfInBounds_toArray, List.set_cons_zero, List.set_cons_succ]
              refine wpAnyH_ready (rs := [13]) (by kernel_rfl) (by simp) ?_
              refine AllReadyH.cons rfl (fun K hK => ?_) AllReadyH.nil
              go_simp
              refine (mdTexts_same _ _ _ [st] (HT14.out) (HO13.out.below HG14.out)).mono ?_; rintro e w15 ⟨rfl, hb15⟩; have HF15 : Hid (Below wi.heap.size wi w15) := HF14.out.trans (hb15.mono HF14.out.size); clear hb15 x0; have x0 := HY.out w15 HF15.out
              refine hK.out _ _ ?_ (fun hHeld => ?_)
              · (first | go_keep | ((try dsimp only); go_keep))
              clear hK K
              try simp only [Act.put, List.setIfInBounds_toArray, List.set_cons_zero, List.set_cons_succ]
              refine wpAnyH_takeD (i := 14) (d := 129) (v := .bool true) rfl (by kernel_rfl) (by kernel_rfl) (by kernel_rfl) (fun _ _ _ h => h) (Or.inl ⟨by rfl, by intro w hSw; (try dsimp only at hSw); go_simp⟩) (by assumption) rfl ?_
              simp only [Act.put, List.setIfInBounds_toArray, List.set_cons_zero, List.set_cons_succ]
              refine wpAnyH_takeD (i := 15) (d := 2) (v := .bool true) rfl (by kernel_rfl) (by kernel_rfl) (by kernel_rfl) (fun _ _ _ h => h) (Or.inl ⟨by rfl, by intro w hSw; (try dsimp only at hSw); go_simp⟩) (by assumption) rfl ?_
              simp only [Act.put, List.setIfInBounds_toArray, List.set_cons_zero, List.set_cons_succ]
              refine wpAnyH_done (by kernel_rfl) ?_ _
              go_wp2
              go_ret
              exact ⟨rfl, HB2.out.trans ((HB2i.out.trans (HF15.out.mono HB2i.out.size)).mono HB2.out.size)⟩
end Go.Proofs.Ytdhmefinbmkdaaa
