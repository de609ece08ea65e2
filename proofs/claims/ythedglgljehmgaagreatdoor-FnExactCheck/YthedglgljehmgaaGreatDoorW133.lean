/-
  impl.Forms.
-/
import Derived.Test.YthedglgljehmgaaGreatDoorW132
import Derived.Test.YthedglgljehmgaaGreatDoorW94
import Derived.Test.YthedglgljehmgaaGreatDoorGW27
namespace Go.Proofs.YthedglgljehmgaaGreatDoor
open Go.RowKit Go.Sort
set_option linter.unusedVariables false
theorem texts_enc (xs : List ByteArray) : texts xs = (xs.map fun x => x.data.toList).map encStr := by
  unfold texts
  rw [List.map_map]
  rfl
/-- What AffixDo answers, by cases. -/
theorem do1_yes {a : Aff} {x y : ByteArray} (h : do1 a x = some y) : doT a x = (y, true) := by
  unfold do1 at h
  split at h
  · next h2 =>
    cases h
    exact Prod.ext rfl h2
  · cases h
theorem do1_no {a : Aff} {x : ByteArray} (h : do1 a x = none) : (doT a x).2 = false := by
  unfold do1 at h
  split at h
  · cases h
  · next h2 => simpa using h2
theorem fm_take {α : Type} {l : List α} {f : α → Option ByteArray} {k : Nat} {x : α} (hx : l[k]? = some x) : (l.take (k + 1)).filterMap f = (l.take k).filterMap f ++ (f x).toList := by
  rw [List.take_add_one, hx, List.filterMap_append]
  cases h : f x <;> simp [h]
theorem fl_take {α : Type} {l : List α} {f : α → List ByteArray} {k : Nat} {x : α} (hx : l[k]? = some x) : (l.take (k + 1)).flatMap f = (l.take k).flatMap f ++ f x := by
  rw [List.take_add_one, hx, List.flatMap_append]
  simp
theorem made1_len {xs : List Aff} (st fl : ByteArray) (h : xs.length ≤ 8) : (made1 xs st fl).length ≤ 9 := by
  unfold made1
  have h1 : ((xs.filter (tkB fl false)).filterMap (do1 · st)).length ≤ (xs.filter (tkB fl false)).length := List.length_filterMap_le _ _
  have h2 := List.length_filter_le (tkB fl false) xs
  rw [List.length_cons]
  omega
theorem flat_len (m : List ByteArray) (hm : m.length ≤ 9) : ∀ zs : List Aff, (zs.flatMap fun a => m.filterMap (do1 a)).length ≤ 9 * zs.length
  | [] => by simp
  | z :: zs => by
    have h1 := flat_len m hm zs
    have h2 : (m.filterMap (do1 z)).length ≤ m.length := List.length_filterMap_le _ _
    rw [List.flatMap_cons, List.length_append, List.length_cons]
    omega
theorem made2_wok {xs : List Aff} {st fl : ByteArray} (h : wok st = true) : ∀ x ∈ made2 xs st fl, wok x = true := fun x hx => formsL_wok h x ((made2_mem xs st fl x).2 hx)
theorem wok_small {x : ByteArray} (h : wok x = true) : x.size ≤ maxLen := by
  simp only [wok, Bool.and_eq_true, decide_eq_true_eq] at h
  unfold maxLen
  omega
theorem Tryz.info_str133 : (Tryz.prog.info? 9).map (fun i => (i.zero, i.size, i.bytes)) = some (some (.string ⟨#[]⟩), 1, 16) := by kernel_rfl
set_option maxRecDepth 100000 in
set_option maxHeartbeats 2000000 in
theorem implForms_any (w : World) (va : Value) (xs : List Aff) (st fl : ByteArray) (ha : AffsAt w va xs) (h1 : st.size ≤ maxLen) (hfl : fl.size ≤ maxLen) :
    Calls Tryz.prog 49 #[va, .agg #[.string st, .string fl]] w fun e w' => ∃ v', e = .returned v' ∧ TextsOwn w.heap.size w' v' (formsT xs st fl) ∧ Below w.heap.size w w' := by
  obtain ⟨a, cap, rfl, hc, hmx⟩ := ha.form
  have HA : Hid (AffsAt w (.slice a xs.length cap) xs) := ha
  have HS : Hid (st.size ≤ maxLen) := h1
  have HFL : Hid (fl.size ≤ maxLen) := hfl
  have HBa : Hid (Below w.heap.size w (w.alloc (.cells #[.string st, .string fl] 80))) := (Below.refl _ _).alloc (Nat.le_refl _) _
  have HCa : Hid (World.cell? (w.alloc (.cells #[.string st, .string fl] 80)) ⟨w.heap.size, 0, none⟩ = some (.string st) ∧ World.cell? (w.alloc (.cells #[.string st, .string fl] 80)) ⟨w.heap.size, 1, none⟩ = some (.string fl)) := by
    have h : (World.heap (w.alloc (.cells #[.string st, .string fl] 80)))[w.heap.size]? = some (.cells #[.string st, .string fl] 80 (0, 0)) := heap_alloc_last w _
    show _ ∧ _
    exact ⟨by rw [cell_of_row _ _ 0 _ _ _ h]; rfl, by rw [cell_of_row _ _ 1 _ _ _ h]; rfl⟩
  have HFT : Hid (∀ (i : Nat) (x : Aff), xs[i]? = some x → x.fits) := ha.fit
  clear ha h1 hfl
  unfold maxLen at hmx
  have HNI : Hid (∀ w : World, TextsOwn w.heap.size w (.slice none 0 0) []) := fun w => ⟨none, 0, rfl, Nat.le_refl _, Nat.zero_le _, fun i x hx => by simp at hx, fun hn => absurd rfl hn⟩
  cases hok : affsT xs with
  | false =>
    have HF : Hid (formsT xs st fl = []) := if_neg (by simp [hok])
    go_enter Tryz.func49, Tryz.ntmps49
    go_wp2_with fail
    refine (affixesOk_any _ _ xs (HA.out.below HBa.out)).mono ?_
    rintro e w1 ⟨rfl, hb1⟩
    rw [hok]
    have HB1 : Hid (Below w.heap.size w w1) := HBa.out.trans (hb1.mono HBa.out.size)
    clear hb1
    go_wp2
    go_ret
    rw [HF.out]
    exact ⟨_, rfl, ⟨none, 0, rfl, Nat.le_refl _, Nat.zero_le _, fun i x hx => by simp at hx, fun hn => absurd rfl hn⟩, HB1.out⟩
  | true =>
    have HOK : Hid ((∀ a ∈ xs, affOk a = true) ∧ xs.length ≤ 8) := affsT_all hok
    cases hen : entT st fl with
    | false =>
      have HF : Hid (formsT xs st fl = []) := if_neg (by simp [hen])
      go_enter Tryz.func49, Tryz.ntmps49
      go_wp2_with fail
      refine (affixesOk_any _ _ xs (HA.out.below HBa.out)).mono ?_
      rintro e w1 ⟨rfl, hb1⟩
      rw [hok]
      have HB1 : Hid (Below w.heap.size w w1) := HBa.out.trans (hb1.mono HBa.out.size)
      have k0 := (hb1.cell (p := ⟨w.heap.size, 0, none⟩) (by simp)).trans HCa.out.1
      have k1 := (hb1.cell (p := ⟨w.heap.size, 1, none⟩) (by simp)).trans HCa.out.2
      clear hb1
      go_wp2_with fail
      refine (implEntryOk_any st fl _ HS.out HFL.out).mono ?_
      rintro e w2 ⟨rfl, hb2⟩
      rw [hen]
      have HB2 : Hid (Below w.heap.size w w2) := HB1.out.trans (hb2.mono HB1.out.size)
      clear hb2 k0 k1
      go_wp2
      go_ret
      rw [HF.out]
      exact ⟨_, rfl, ⟨none, 0, rfl, Nat.le_refl _, Nat.zero_le _, fun i x hx => by simp at hx, fun hn => absurd rfl hn⟩, HB2.out⟩
    | true =>
      have HF : Hid (formsT xs st fl = formsL xs st fl) := if_pos (by simp [hok, hen])
      have HW : Hid (wok st = true) := by
        simp only [entT, Bool.and_eq_true] at hen
        exact hen.1
      obtain ⟨i3, hi3, hz3, hs3, hb3⟩ := info_parts Tryz.info_str133
      obtain ⟨ES, hES⟩ : ∃ ES, xs.filter (tkB fl false) = ES := ⟨_, rfl⟩
      obtain ⟨BS, hBS⟩ : ∃ BS, xs.filter (tkB fl true) = BS := ⟨_, rfl⟩
      have hle : ES.length ≤ 8 := by rw [← hES]; exact Nat.le_trans (List.length_filter_le _ _) HOK.out.2
      have hlb : BS.length ≤ 8 := by rw [← hBS]; exact Nat.le_trans (List.length_filter_le _ _) HOK.out.2
      have HFE : Hid (∀ (i : Nat) (x : Aff), ES[i]? = some x → x.fits) := fun i x hx => by
        have := List.mem_of_getElem? hx
        rw [← hES] at this
        obtain ⟨j, hj, he⟩ := List.mem_iff_getElem.1 (List.mem_filter.1 this).1
        exact HFT.out j x (by rw [List.getElem?_eq_getElem hj, he])
      have HFB : Hid (∀ (i : Nat) (x : Aff), BS[i]? = some x → x.fits) := fun i x hx => by
        have := List.mem_of_getElem? hx
        rw [← hBS] at this
        obtain ⟨j, hj, he⟩ := List.mem_iff_getElem.1 (List.mem_filter.1 this).1
        exact HFT.out j x (by rw [List.getElem?_eq_getElem hj, he])
      have HM1 : Hid (made1 xs st fl = st :: ES.filterMap (do1 · st)) := by show made1 _ _ _ = _; rw [← hES]; rfl
      have HM2 : Hid (made2 xs st fl = made1 xs st fl ++ BS.flatMap fun a => (made1 xs st fl).filterMap (do1 a)) := by show made2 _ _ _ = _; rw [← hBS]; rfl
      have HTK : Hid (∀ (w : World) (va : Value), AffsAt w va xs → Calls Tryz.prog 73 #[va, .string fl] w fun e w' => ∃ ve vb, e = .returned (.tuple #[ve, vb]) ∧ TakenAt w.heap.size w' ve vb ES BS ∧ Below w.heap.size w w') := fun w va h => by
        rw [← hES, ← hBS]
        exact taken_any w va xs fl h HOK.out.1 HOK.out.2
      have HL1 : Hid ((made1 xs st fl).length ≤ 9) := made1_len st fl HOK.out.2
      have HWM : Hid (∀ x ∈ made1 xs st fl, x.size ≤ maxLen) := fun x hx => wok_small (made2_wok HW.out x (by unfold made2; exact List.mem_append_left _ hx))
      clear hES hBS
      go_enter Tryz.func49, Tryz.ntmps49
      go_wp2_with fail
      refine (affixesOk_any _ _ xs (HA.out.below HBa.out)).mono ?_
      rintro e w1 ⟨rfl, hb1⟩
      rw [hok]
      have HB1 : Hid (Below w.heap.size w w1) := HBa.out.trans (hb1.mono HBa.out.size)
      have k0 := (hb1.cell (p := ⟨w.heap.size, 0, none⟩) (by simp)).trans HCa.out.1
      have k1 := (hb1.cell (p := ⟨w.heap.size, 1, none⟩) (by simp)).trans HCa.out.2
      have hz1 : w.heap.size < w1.heap.size := by have := hb1.size; simp at this; omega
      clear hb1
      go_wp2_with fail
      refine (implEntryOk_any st fl _ HS.out HFL.out).mono ?_
      rintro e w2 ⟨rfl, hb2⟩
      rw [hen]
      have HB2 : Hid (Below w.heap.size w w2) := HB1.out.trans (hb2.mono HB1.out.size)
      have k2 := (hb2.cell (p := ⟨w.heap.size, 0, none⟩) hz1).trans k0
      have k3 := (hb2.cell (p := ⟨w.heap.size, 1, none⟩) hz1).trans k1
      have hz2 : w.heap.size < w2.heap.size := by have := hb2.size; omega
      clear hb2 k0 k1
      go_wp2_with fail
      refine (HTK.out _ _ (HA.out.below HB2.out)).mono ?_
      rintro e w3 ⟨ve, vb, rfl, ht3, hb3⟩
      have HB3 : Hid (Below w.heap.size w w3) := HB2.out.trans (hb3.mono HB2.out.size)
      have K4 : Hid (w3.cell? ⟨w.heap.size, 0, none⟩ = some (.string st)) := (hb3.cell (p := ⟨w.heap.size, 0, none⟩) hz2).trans k2
      have hz3 : w.heap.size < w3.heap.size := by have := hb3.size; omega
      obtain ⟨ae, ce, rfl⟩ := owns_form ht3.1
      obtain ⟨ab, cb, rfl⟩ := owns_form ht3.2
      have HE3 : Hid (AffsAt w3 (.slice ae ES.length ce) ES) := affsAt_of_owns ht3.1 HFE.out
      have HB3' : Hid (AffsAt w3 (.slice ab BS.length cb) BS) := affsAt_of_owns ht3.2 HFB.out
      clear hb3 ht3 k2 k3
      have k4 := K4.out
      go_wp2
      go_loopw [7, 38] (fun m i wr => ∃ (k : Nat), k ≤ ES.length ∧ i = .int .i64 k ∧ wr.ownsRow w3.heap.size 9 1 m (st :: (ES.take k).filterMap (do1 · st)).length (texts (st :: (ES.take k).filterMap (do1 · st))) ∧ Below w3.heap.size w3 wr) (fun _ i _ => ES.length - (intOf i).toNat)
      case atStart =>
        refine ⟨0, Nat.zero_le _, rfl, ⟨rfl, .inr ⟨w3.heap.size, 1, #[.string st], rfl, Nat.le_refl _, heap_alloc_last _ _, Nat.le_refl _, by unfold maxLen; omega, rfl, rfl⟩⟩, (Below.refl _ _).alloc (Nat.le_refl _) _⟩
      case round =>
        obtain ⟨k, hk, rfl, ht, hb⟩ := hrel
        have HT : Hid (wr.ownsRow w3.heap.size 9 1 u7 (st :: (ES.take k).filterMap (do1 · st)).length (texts (st :: (ES.take k).filterMap (do1 · st)))) := ht
        have HB : Hid (Below w3.heap.size w3 wr) := hb
        obtain ⟨a7, c7, rfl⟩ := owns_form ht
        clear ht hb
        have k5 := (HB.out.cell (p := ⟨w.heap.size, 0, none⟩) hz3).trans K4.out
        have hlm : ((ES.take k).filterMap (do1 · st)).length ≤ 8 := Nat.le_trans (List.length_filterMap_le _ _) (Nat.le_trans (List.length_take_le' _ _) hle)
        by_cases hlt : k < ES.length
        · obtain ⟨b, off, cap', x, hv, hbl, hx, hxf, e0, e1, e2, e3, e4⟩ := (HE3.out.below HB.out).at hlt
          cases hv
          have HN : Hid ((ES.take (k + 1)).filterMap (do1 · st) = (ES.take k).filterMap (do1 · st) ++ (do1 x st).toList) := fm_take hx
          have HXF : Hid (x.fits) := hxf
          obtain ⟨f, fr, s', ad, wh⟩ := x
          simp only at e0 e1 e2 e3 e4
          have hz4 : w.heap.size < wr.heap.size := by have := HB.out.size; omega
          clear hx hxf
          cases hd : do1 ⟨f, fr, s', ad, wh⟩ st with
          | none =>
            have HDO : Hid (∀ w : World, Calls Tryz.prog 74 #[.agg #[.string f, .bool fr, .string s', .string ad, .string wh], .string st] w fun e w' => (∃ z, e = .returned (.tuple #[.string z, .bool false])) ∧ Below w.heap.size w w') := fun w => (implAffixDo_any ⟨f, fr, s', ad, wh⟩ st w HXF.out HS.out).mono fun e w' ⟨h1, h2⟩ => ⟨⟨(doT ⟨f, fr, s', ad, wh⟩ st).1, by rw [h1, do1_no hd]⟩, h2⟩
            have HN2 : Hid ((ES.take (k + 1)).filterMap (do1 · st) = (ES.take k).filterMap (do1 · st)) := by show List.filterMap _ _ = _; rw [HN.out, hd]; simp
            clear hd
            go_wp2_with fail
            refine (HDO.out _).mono ?_
            rintro e w4 ⟨⟨z, rfl⟩, hb4⟩
            have HB4 : Hid (Below wr.heap.size wr w4) := ((Below.refl _ _).alloc (Nat.le_refl _) _).trans (hb4.mono (by simp))
            clear hb4
            go_wp2
            go_roundw
            case rel => exact ⟨k + 1, by omega, by go_num, by rw [HN2.out]; exact owns_below HT.out HB4.out, HB.out.trans (HB4.out.mono HB.out.size)⟩
            case measure => simp [intOf]; omega
          | some y =>
            have HDO : Hid (∀ w : World, Calls Tryz.prog 74 #[.agg #[.string f, .bool fr, .string s', .string ad, .string wh], .string st] w fun e w' => e = .returned (.tuple #[.string y, .bool true]) ∧ Below w.heap.size w w') := fun w => (implAffixDo_any ⟨f, fr, s', ad, wh⟩ st w HXF.out HS.out).mono fun e w' ⟨h1, h2⟩ => ⟨by rw [h1, do1_yes hd], h2⟩
            have HN2 : Hid ((ES.take (k + 1)).filterMap (do1 · st) = (ES.take k).filterMap (do1 · st) ++ [y]) := by show List.filterMap _ _ = _; rw [HN.out, hd]; simp
            clear hd
            go_wp2_with fail
            refine (HDO.out _).mono ?_
            rintro e w4 ⟨rfl, hb4⟩
            have HB4 : Hid (Below wr.heap.size wr w4) := ((Below.refl _ _).alloc (Nat.le_refl _) _).trans (hb4.mono (by simp))
            have HR4 : Hid (w4.ownsRow w3.heap.size 9 1 (.slice a7 (st :: (ES.take k).filterMap (do1 · st)).length c7) (st :: (ES.take k).filterMap (do1 · st)).length (texts (st :: (ES.take k).filterMap (do1 · st)))) := owns_below HT.out HB4.out
            have hw4 : w3.heap.size ≤ w4.heap.size := Nat.le_trans HB.out.size HB4.out.size
            have hle2 : (st :: (ES.take k).filterMap (do1 · st)).length ≤ 9 := by rw [List.length_cons]; omega
            clear hb4
            go_wp2_with (at_builtin; refine wpList_append_own _ rfl _ _ 53 rfl w3.heap.size 9 i3 (.string ⟨#[]⟩) 1 16 Tryz.underlying53 hi3 ‹_› hs3 ‹_› rfl (by decide) _ _ _ rfl (HR4.out.alloc _) ⟨_, 0, none⟩ 1 1 [.string y] rfl rfl (cell_one_new _ _ _) (one_text y) (by unfold maxLen; omega) (by omega) (by rw [World.size_alloc]; omega) ?_; intro v' w5 hown hgrow hnil; have HB5 : Hid (Below w3.heap.size w3 w5) := Below.grown ((HB.out.trans (HB4.out.mono HB.out.size)).alloc hw4 _) hgrow (by rw [World.size_alloc]; omega) (own_block_ge HR4.out); clear hgrow hnil)
            go_roundw
            case rel =>
              refine ⟨k + 1, by omega, by go_num, ?_, HB5.out⟩
              rw [HN2.out, ← List.cons_append, List.length_append, texts_append]
              exact hown
            case measure => simp [intOf]; omega
        · have hke : k = ES.length := by omega
          subst hke
          have hM : st :: (ES.take ES.length).filterMap (do1 · st) = made1 xs st fl := by rw [List.take_length, HM1.out]
          have HT1 : Hid (wr.ownsRow w3.heap.size 9 1 (.slice a7 (made1 xs st fl).length c7) (made1 xs st fl).length (texts (made1 xs st fl))) := by
            have := HT.out
            rw [hM] at this
            exact this
          have HEX : Hid (Below w3.heap.size w3 wr) := HB.out
          rw [hM]
          generalize made1 xs st fl = M at *
          clear HT HB hM hlm k5 HM1 hlt hk
          have hl1 := HL1.out
          go_wp2
          go_loopw [7, 60] (fun m i wr => ∃ (k : Nat), k ≤ BS.length ∧ i = .int .i64 k ∧ wr.ownsRow w3.heap.size 9 1 m (M ++ (BS.take k).flatMap fun a => M.filterMap (do1 a)).length (texts (M ++ (BS.take k).flatMap fun a => M.filterMap (do1 a))) ∧ Below w3.heap.size w3 wr) (fun _ i _ => BS.length - (intOf i).toNat)
          case atStart => exact ⟨0, Nat.zero_le _, rfl, by simpa using HT1.out, HEX.out⟩
          case round =>
            clear HT1 HEX
            rename World => wo
            obtain ⟨k, hk, rfl, ht, hb⟩ := hrel
            have HT : Hid (wo.ownsRow w3.heap.size 9 1 u7 (M ++ (BS.take k).flatMap fun a => M.filterMap (do1 a)).length (texts (M ++ (BS.take k).flatMap fun a => M.filterMap (do1 a)))) := ht
            have HB : Hid (Below w3.heap.size w3 wo) := hb
            obtain ⟨a8, c8, rfl⟩ := owns_form ht
            clear ht hb
            by_cases hlt : k < BS.length
            · obtain ⟨b, off, cap', x, hv, hbl, hx, hxf, e0, e1, e2, e3, e4⟩ := (HB3'.out.below HB.out).at hlt
              cases hv
              have HN : Hid (((BS.take (k + 1)).flatMap fun a => M.filterMap (do1 a)) = ((BS.take k).flatMap fun a => M.filterMap (do1 a)) ++ M.filterMap (do1 x)) := fl_take hx
              have HXF : Hid (x.fits) := hxf
              have hql : (M ++ (BS.take k).flatMap fun a => M.filterMap (do1 a)).length ≤ 90 := by
                have h1 := flat_len M HL1.out (BS.take k)
                have h2 : (BS.take k).length ≤ 8 := Nat.le_trans (List.length_take_le' _ _) hlb
                rw [List.length_append]
                omega
              have HPM : Hid (∀ (j : Nat) (y : ByteArray), M[j]? = some y → (M ++ (BS.take k).flatMap fun a => M.filterMap (do1 a))[j]? = some y) := fun j y hy => by
                rw [List.getElem?_append_left (List.getElem?_eq_some_iff.1 hy).1]
                exact hy
              obtain ⟨Q, hQ⟩ : ∃ Q, (M ++ (BS.take k).flatMap fun a => M.filterMap (do1 a)) = Q := ⟨_, rfl⟩
              have HQ : Hid ((M ++ (BS.take k).flatMap fun a => M.filterMap (do1 a)) = Q) := hQ
              rw [hQ] at HT hql HPM ⊢
              clear hQ
              obtain ⟨f, fr, s', ad, wh⟩ := x
              simp only at e0 e1 e2 e3 e4
              clear hx hxf
              go_wp2
              go_loopw [7, 65] (fun m i wr => ∃ (j : Nat), j ≤ M.length ∧ i = .int .i64 j ∧ wr.ownsRow w3.heap.size 9 1 m (Q ++ (M.take j).filterMap (do1 ⟨f, fr, s', ad, wh⟩)).length (texts (Q ++ (M.take j).filterMap (do1 ⟨f, fr, s', ad, wh⟩))) ∧ wr.heap[wo.heap.size]? = some (.cells #[.string f, .bool fr, .string s', .string ad, .string wh] 120 (0, 0)) ∧ Below w3.heap.size w3 wr) (fun _ i _ => M.length - (intOf i).toNat)
              case atStart => exact ⟨0, Nat.zero_le _, rfl, by simpa using HT.out.alloc _, heap_alloc_last _ _, HB.out.alloc HB.out.size _⟩
              case round =>
                obtain ⟨j, hj, rfl, ht, hbk, hb⟩ := hrel
                have HTJ : Hid (wr.ownsRow w3.heap.size 9 1 u7 (Q ++ (M.take j).filterMap (do1 ⟨f, fr, s', ad, wh⟩)).length (texts (Q ++ (M.take j).filterMap (do1 ⟨f, fr, s', ad, wh⟩)))) := ht
                have HBJ : Hid (Below w3.heap.size w3 wr) := hb
                have HBK : Hid (wr.heap[wo.heap.size]? = some (.cells #[.string f, .bool fr, .string s', .string ad, .string wh] 120 (0, 0))) := hbk
                have hlq : (Q ++ (M.take j).filterMap (do1 ⟨f, fr, s', ad, wh⟩)).length ≤ 99 := by
                  have h1 : ((M.take j).filterMap (do1 ⟨f, fr, s', ad, wh⟩)).length ≤ (M.take j).length := List.length_filterMap_le _ _
                  have h2 : (M.take j).length ≤ 9 := Nat.le_trans (List.length_take_le' _ _) HL1.out
                  rw [List.length_append]
                  omega
                by_cases hjl : j < M.length
                · obtain ⟨y, hy⟩ : ∃ y, M[j]? = some y := ⟨_, List.getElem?_eq_getElem hjl⟩
                  obtain ⟨R, hR⟩ : ∃ R, Q ++ (M.take j).filterMap (do1 ⟨f, fr, s', ad, wh⟩) = R := ⟨_, rfl⟩
                  have HR0 : Hid (Q ++ (M.take j).filterMap (do1 ⟨f, fr, s', ad, wh⟩) = R) := hR
                  have HTR : Hid (wr.ownsRow w3.heap.size 9 1 u7 R.length (texts R)) := by have := HTJ.out; rw [hR] at this; exact this
                  have hrl : R.length ≤ 99 := by rw [← hR]; exact hlq
                  have HYS : Hid (y.size ≤ maxLen) := HWM.out y (List.mem_of_getElem? hy)
                  have hqy : R[j]? = some y := by
                    rw [← hR]
                    have := HPM.out j y hy
                    rw [List.getElem?_append_left (List.getElem?_eq_some_iff.1 this).1]
                    exact this
                  obtain ⟨g, gc, rfl, hcl⟩ := owns_texts_at HTR.out (not_nil70 hqy)
                  have c1 := hcl j y hqy
                  have hjq : j < R.length := (List.getElem?_eq_some_iff.1 hqy).1
                  have HS2 : Hid ((M.take (j + 1)).filterMap (do1 ⟨f, fr, s', ad, wh⟩) = (M.take j).filterMap (do1 ⟨f, fr, s', ad, wh⟩) ++ (do1 ⟨f, fr, s', ad, wh⟩ y).toList) := fm_take hy
                  have b0 := cell_of_row wr wo.heap.size 0 _ _ _ hbk
                  have b1 := cell_of_row wr wo.heap.size 1 _ _ _ hbk
                  have b2 := cell_of_row wr wo.heap.size 2 _ _ _ hbk
                  have b3 := cell_of_row wr wo.heap.size 3 _ _ _ hbk
                  have b4 := cell_of_row wr wo.heap.size 4 _ _ _ hbk
                  simp only [List.getElem?_toArray, List.getElem?_cons_zero, List.getElem?_cons_succ] at b0 b1 b2 b3 b4
                  clear hcl hqy hy ht hb hbk hlq HTJ hR e0 e1 e2 e3 e4
                  cases hd : do1 ⟨f, fr, s', ad, wh⟩ y with
                  | none =>
                    have HDO : Hid (∀ w : World, Calls Tryz.prog 74 #[.agg #[.string f, .bool fr, .string s', .string ad, .string wh], .string y] w fun e w' => (∃ z, e = .returned (.tuple #[.string z, .bool false])) ∧ Below w.heap.size w w') := fun w => (implAffixDo_any ⟨f, fr, s', ad, wh⟩ y w HXF.out HYS.out).mono fun e w' ⟨h1, h2⟩ => ⟨⟨(doT ⟨f, fr, s', ad, wh⟩ y).1, by rw [h1, do1_no hd]⟩, h2⟩
                    have HN2 : Hid (Q ++ (M.take (j + 1)).filterMap (do1 ⟨f, fr, s', ad, wh⟩) = R) := by show _ ++ _ = R; rw [HS2.out, hd, ← HR0.out]; simp
                    clear hd
                    go_wp2_with fail
                    go_region_with (go_at_call 74; refine (HDO.out _).mono ?_; rintro e w4 ⟨⟨z, rfl⟩, hb4⟩)
                    all_goals
                      have HB4 : Hid (Below wr.heap.size wr w4) := (Below.refl _ _).drew.trans hb4
                      clear hb4
                      go_wp2
                      go_roundw
                      case rel => exact ⟨j + 1, by omega, by go_num, by rw [HN2.out]; exact owns_below HTR.out HB4.out, (HB4.out.block _ (lt_of_block HBK.out)).trans HBK.out, HBJ.out.trans (HB4.out.mono HBJ.out.size)⟩
                      case measure => simp [intOf]; omega
                  | some z =>
                    have HDO : Hid (∀ w : World, Calls Tryz.prog 74 #[.agg #[.string f, .bool fr, .string s', .string ad, .string wh], .string y] w fun e w' => e = .returned (.tuple #[.string z, .bool true]) ∧ Below w.heap.size w w') := fun w => (implAffixDo_any ⟨f, fr, s', ad, wh⟩ y w HXF.out HYS.out).mono fun e w' ⟨h1, h2⟩ => ⟨by rw [h1, do1_yes hd], h2⟩
                    have HN2 : Hid (Q ++ (M.take (j + 1)).filterMap (do1 ⟨f, fr, s', ad, wh⟩) = R ++ [z]) := by show _ ++ _ = _; rw [HS2.out, hd, ← HR0.out]; simp
                    clear hd
                    go_wp2_with fail
                    go_region_with (go_at_call 74; refine (HDO.out _).mono ?_; rintro e w4 ⟨rfl, hb4⟩)
                    all_goals
                      have HB4 : Hid (Below wr.heap.size wr w4) := (Below.refl _ _).drew.trans hb4
                      have HR4 : Hid (w4.ownsRow w3.heap.size 9 1 (.slice (some ⟨g, 0, none⟩) R.length gc) R.length (texts R)) := owns_below HTR.out HB4.out
                      have HK4 : Hid (w4.heap[wo.heap.size]? = some (.cells #[.string f, .bool fr, .string s', .string ad, .string wh] 120 (0, 0))) := (HB4.out.block _ (lt_of_block HBK.out)).trans HBK.out
                      have hw4 : w3.heap.size ≤ w4.heap.size := Nat.le_trans HBJ.out.size HB4.out.size
                      clear hb4
                      go_wp2_with (at_builtin; refine wpList_append_own _ rfl _ _ 53 rfl w3.heap.size 9 i3 (.string ⟨#[]⟩) 1 16 Tryz.underlying53 hi3 ‹_› hs3 ‹_› rfl (by decide) _ _ _ rfl (HR4.out.alloc _) ⟨_, 0, none⟩ 1 1 [.string z] rfl rfl (cell_one_new _ _ _) (one_text z) (by unfold maxLen; omega) (by omega) (by rw [World.size_alloc]; omega) ?_; intro v' w5 hown hgrow hnil; have HB5 : Hid (Below w3.heap.size w3 w5) := Below.grown ((HBJ.out.trans (HB4.out.mono HBJ.out.size)).alloc hw4 _) hgrow (by rw [World.size_alloc]; omega) (own_block_ge HR4.out); have HK5 : Hid (w5.heap[wo.heap.size]? = some (.cells #[.string f, .bool fr, .string s', .string ad, .string wh] 120 (0, 0))) := (hgrow.block _ (by rw [World.size_alloc]; exact Nat.lt_succ_of_lt (lt_of_block HK4.out)) (row_ne_block HR4.out HK4.out (by decide))).trans ((Below.heap_alloc _ _ _ (lt_of_block HK4.out)).trans HK4.out); clear hgrow hnil)
                      go_roundw
                      case rel =>
                        refine ⟨j + 1, by omega, by go_num, ?_, HK5.out, HB5.out⟩
                        rw [HN2.out, List.length_append, texts_append]
                        exact hown
                      case measure => simp [intOf]; omega
                · have hje : j = M.length := by omega
                  subst hje
                  clear ht hb hbk
                  go_wp2
                  go_roundw
                  case rel =>
                    refine ⟨k + 1, by omega, by go_num, ?_, HBJ.out⟩
                    have := HTJ.out
                    rw [List.take_length] at this
                    rw [HN.out, ← List.append_assoc, HQ.out]
                    exact this
                  case measure => simp [intOf]; omega
            · have hke : k = BS.length := by omega
              subst hke
              have hM2 : (M ++ (BS.take BS.length).flatMap fun a => M.filterMap (do1 a)) = made2 xs st fl := by rw [List.take_length, HM2.out]
              have hl2 : (made2 xs st fl).length ≤ 90 := by
                rw [HM2.out]
                have h1 := flat_len M HL1.out BS
                rw [List.length_append]
                omega
              have HT2 : Hid (wo.ownsRow w3.heap.size 9 1 (.slice a8 (made2 xs st fl).length c8) (made2 xs st fl).length (texts (made2 xs st fl))) := by
                have := HT.out
                rw [hM2] at this
                exact this
              have HSO : Hid (∀ v, wo.ownsRow w3.heap.size 9 1 v (made2 xs st fl).length (texts (made2 xs st fl)) → Calls Tryz.prog 75 #[v] wo fun e w' => ∃ v', e = .returned v' ∧ TextsOwn w.heap.size w' v' (formsL xs st fl) ∧ Below w3.heap.size wo w') := fun v h => by
                have h0 : wo.ownsRow w3.heap.size 9 1 v ((made2 xs st fl).map fun x => x.data.toList).length (((made2 xs st fl).map fun x => x.data.toList).map encStr) := by
                  rw [List.length_map, ← texts_enc]
                  exact h
                refine (sortedOnce_any w3.heap.size _ v wo h0 (by rw [List.length_map]; omega) HB.out.size).mono ?_
                rintro e w' ⟨v', rfl, hr, hb, _⟩
                refine ⟨v', rfl, ?_, hb⟩
                have hT := TextsOwn.of_owns (owns_lower hr (Nat.le_of_lt hz3)) (fun x hx => by
                  have h1 : (⟨x.toArray⟩ : ByteArray) ∈ formsL xs st fl := by
                    rw [← once_forms xs st fl]
                    exact List.mem_map.2 ⟨x, hx, rfl⟩
                  have h2 := wok_small (formsL_wok HW.out _ h1)
                  have h3 : (⟨x.toArray⟩ : ByteArray).size = x.length := size_toArr x
                  omega)
                have h5 := once_forms xs st fl
                unfold onceT at h5
                rw [h5] at hT
                exact hT
              rw [hM2]
              clear hM2 HT
              go_wp2_with fail
              refine (HSO.out _ HT2.out).mono ?_
              rintro e w6 ⟨v6, rfl, h6, hb6⟩
              have H6 : Hid (TextsOwn w.heap.size w6 v6 (formsL xs st fl)) := h6
              have HB6 : Hid (Below w.heap.size w w6) := HB3.out.trans ((HB.out.trans hb6).mono (Nat.le_of_lt hz3))
              clear h6 hb6
              go_wp2
              go_ret
              rw [HF.out]
              exact ⟨_, rfl, H6.out, HB6.out⟩
end Go.Proofs.YthedglgljehmgaaGreatDoor
