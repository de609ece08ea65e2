/-
  spec.BookStems.
-/
import Derived.Test.YthikcililececaaGW154
import Derived.Test.YthikcililececaaW140
namespace Go.Proofs.Ythikcililececaa
open Go.RowKit
set_option linter.unusedVariables false
theorem stemsTo_next {xs : List Aff} {es : List (ByteArray × ByteArray)} {k : Nat} {st fl : ByteArray} (hx : es[k]? = some (st, fl)) (s : ByteArray) : stemsTo xs es s (k + 1) = stemsTo xs es s k ++ (if hasW (formsT xs st fl) s then [st] else []) := by
  rw [stemsTo, hx]
theorem stemsTo_fit {xs : List Aff} {es : List (ByteArray × ByteArray)} {s : ByteArray} (hf : ∀ (i : Nat) (x : ByteArray × ByteArray), es[i]? = some x → x.1.size ≤ maxLen) : ∀ k, ∀ x ∈ stemsTo xs es s k, x.size ≤ maxLen
  | 0, x, h => by cases h
  | k + 1, x, h => by
    unfold stemsTo at h
    rw [List.mem_append] at h
    rcases h with h | h
    · exact stemsTo_fit hf k x h
    · split at h
      · next e he =>
        split at h
        · rw [List.mem_singleton] at h; subst h; exact hf k _ he
        · cases h
      · cases h
theorem owns_texts_all {w : World} {lo : Nat} {v : Value} {ys : List ByteArray} (h : w.ownsRow lo 9 1 v ys.length (texts ys)) (hl : ys.length ≤ 1000000) (hf : ∀ x ∈ ys, x.size ≤ maxLen) : TextsAt w v ys := by
  have h1 : TextsRow lo w.heap.size w v ys := ⟨rowOwn_of_owns h (C := TxTo ys.length ys) (fun f hf2 i x hi hx => hf2 i _ (by simp [texts, hx])), fun i x hx => hf x (List.mem_of_getElem? hx)⟩
  exact h1.at
theorem info_str155 : (Try.prog.info? 9).map (fun i => (i.zero, i.size, i.bytes)) = some (some (.string ⟨#[]⟩), 1, 16) := by kernel_rfl
set_option maxRecDepth 100000 in
set_option maxHeartbeats 2000000 in
theorem specBookStems_any (w : World) (va ve : Value) (xs : List Aff) (es : List (ByteArray × ByteArray)) (s : ByteArray) (ha : AffsAt w va xs) (he : EntsAt w ve es) :
    Calls Try.prog 21 #[.agg #[va, ve], .string s] w fun e w' => ∃ v, e = .returned v ∧ TextsAt w' v (stemsT xs es s) ∧ Below w.heap.size w w' := by
  obtain ⟨a, cap, rfl, hc, hm⟩ := ha.form
  obtain ⟨a', cap', rfl, hc', hm'⟩ := he.form
  have HA : Hid (AffsAt w (.slice a xs.length cap) xs) := ha
  have HE : Hid (EntsAt w (.slice a' es.length cap') es) := he
  clear ha he
  unfold maxLen at hm hm'
  obtain ⟨i3, hi3, hz3, hs3, hb3⟩ := info_parts info_str155
  obtain ⟨w0, hw0⟩ : ∃ w0, (w.alloc (.cells #[.slice a xs.length cap, .slice a' es.length cap'] 40)).alloc (.cells #[] 9) = w0 := ⟨_, rfl⟩
  have HB0 : Hid (Below w.heap.size w w0) := by rw [← hw0]; exact ((Below.refl _ _).alloc (Nat.le_refl _) _).alloc (by simp <;> omega) _
  have HO0 : Hid (w0.ownsRow (w.heap.size + 1) 9 1 (.slice (some ⟨w.heap.size + 1, 0, none⟩) 0 0) 0 []) := by
    rw [← hw0]
    have h := heap_alloc_last (w.alloc (.cells #[.slice a xs.length cap, .slice a' es.length cap'] 40)) (.cells #[] 9)
    rw [World.size_alloc] at h
    exact owns_alone h (Nat.le_refl _)
  have c0 : w0.cell? ⟨w.heap.size, 0, none⟩ = some (.slice a xs.length cap) := by rw [← hw0]; simp [go_sem]
  have c1 : w0.cell? ⟨w.heap.size, 1, none⟩ = some (.slice a' es.length cap') := by rw [← hw0]; simp [go_sem]
  have C0 : Hid (w0.cell? ⟨w.heap.size, 0, none⟩ = some (.slice a xs.length cap)) := c0
  have C1 : Hid (w0.cell? ⟨w.heap.size, 1, none⟩ = some (.slice a' es.length cap')) := c1
  have hz0 : w.heap.size + 1 < w0.heap.size := by rw [← hw0]; simp
  clear c0 c1
  cases hbk : bookT xs es with
  | false =>
    have HS : Hid (stemsT xs es s = []) := if_neg (by rw [hbk]; decide)
    go_enter Try.func21, Try.ntmps21
    go_wp2
    clear hw0
    go_loopw [5, 6] (fun o i wr => o = .slice (some ⟨w.heap.size + 1, 0, none⟩) 0 0 ∧ i = .int .i64 0 ∧ wr = w0) (fun _ _ _ => 0)
    case atStart => exact ⟨rfl, rfl, rfl⟩
    case round =>
      obtain ⟨rfl, rfl, rfl⟩ := hrel
      have d0 := C0.out
      have d1 := C1.out
      by_cases hlt : 0 < es.length
      · have i1 : (0 : Int) < (es.length : Int) := by omega
        go_wp2_with fail
        refine (specBookOk_any _ _ _ xs es (HA.out.below HB0.out) (HE.out.below HB0.out)).mono ?_
        rintro e w1 ⟨rfl, hb1⟩
        rw [hbk]
        have HB1 : Hid (Below w.heap.size w w1) := HB0.out.trans (hb1.mono HB0.out.size)
        clear hb1 d0 d1
        go_wp2
        go_ret
        rw [HS.out]
        exact ⟨_, rfl, textsAt_nil _ _ _, HB1.out⟩
      · have i1 : ¬ (0 : Int) < (es.length : Int) := by omega
        go_wp2
        go_ret
        rw [HS.out]
        exact ⟨_, rfl, textsAt_nil _ _ _, HB0.out⟩
  | true =>
    have HS : Hid (stemsT xs es s = stemsTo xs es s es.length) := if_pos hbk
    have HBK : Hid (bookT xs es = true) := hbk
    have hl24 := bookT_len hbk
    have HOK : Hid ((∀ a ∈ xs, affOk a = true) ∧ xs.length ≤ 8) := affsT_all (bookT_affs hbk)
    have hx8 := HOK.out.2
    have HSZ : Hid (∀ x ∈ stemsTo xs es s es.length, x.size ≤ maxLen) := stemsTo_fit (fun i x hx => (HE.out.fit i x hx).1) es.length
    go_enter Try.func21, Try.ntmps21
    go_wp2
    clear hw0
    go_loopw [5, 6] (fun o i wr => ∃ (k : Nat) (v0 : Value), k ≤ es.length ∧ o = v0 ∧ i = .int .i64 k ∧ wr.ownsRow (w.heap.size + 1) 9 1 v0 (stemsTo xs es s k).length (texts (stemsTo xs es s k)) ∧ Below (w.heap.size + 1) w0 wr) (fun _ i _ => es.length - (intOf i).toNat)
    case atStart => exact ⟨0, _, Nat.zero_le _, rfl, rfl, HO0.out, Below.refl _ _⟩
    case round =>
      obtain ⟨k, v0, hk, hov, rfl, ho, hb⟩ := hrel
      have hsl := stemsTo_len xs es s k hk
      obtain ⟨SS, hSS⟩ : ∃ SS, stemsTo xs es s k = SS := ⟨_, rfl⟩
      have HSS : Hid (stemsTo xs es s k = SS) := hSS
      rw [hSS] at ho hsl
      obtain ⟨b1, q1, hv0⟩ := owns_form ho
      subst hv0
      subst hov
      have HO : Hid (wr.ownsRow (w.heap.size + 1) 9 1 (.slice b1 SS.length q1) SS.length (texts SS)) := ho
      have HB : Hid (Below (w.heap.size + 1) w0 wr) := hb
      have hzr := hb.size
      have d0 := (HB.out.cell (p := ⟨w.heap.size, 0, none⟩) (by simp)).trans C0.out
      have d1 := (HB.out.cell (p := ⟨w.heap.size, 1, none⟩) (by simp)).trans C1.out
      have HBW : Hid (Below w.heap.size w wr) := HB0.out.trans (HB.out.mono (Nat.le_succ _))
      clear ho hb hSS
      by_cases hlt : k < es.length
      · have i1 : (k : Int) < (es.length : Int) := by omega
        have i0 : (0 : Int) ≤ (k : Int) := by omega
        have hzw : w.heap.size < wr.heap.size := by omega
        go_wp2_with fail
        refine (specBookOk_any _ _ _ xs es (HA.out.below HBW.out) (HE.out.below HBW.out)).mono ?_
        rintro e w1 ⟨rfl, hb1⟩
        rw [hbk]
        have HB1 : Hid (Below wr.heap.size wr w1) := hb1
        have HW1 : Hid (Below w.heap.size w w1) := HBW.out.trans (hb1.mono HBW.out.size)
        have h0 := (hb1.cell (p := ⟨w.heap.size, 0, none⟩) hzw).trans d0
        have h1 := (hb1.cell (p := ⟨w.heap.size, 1, none⟩) hzw).trans d1
        have hz1 : w.heap.size + 1 < w1.heap.size := by have := hb1.size; omega
        obtain ⟨b, off, cap2, x, hv, hbl, hx, hxf, e0, e1⟩ := (HE.out.below HW1.out).at hlt
        cases hv
        obtain ⟨st, fl⟩ := x
        have HX : Hid (es[k]? = some (st, fl)) := hx
        have HEN : Hid (entT st fl = true) := bookT_ent HBK.out hx
        have HWK : Hid (wok st = true) := by have := HEN.out; simp only [entT, Bool.and_eq_true] at this; exact this.1
        simp only at e0 e1 hxf
        have HXF : Hid (st.size ≤ maxLen ∧ fl.size ≤ maxLen) := hxf
        have HAr : Hid (AffsAt w1 (.slice a xs.length cap) xs) := HA.out.below HW1.out
        have HFT : Hid (formsT xs st fl = formsL xs st fl) := formsT_L HBK.out hx
        have HFS : Hid ((formsL xs st fl).length ≤ 1000000 ∧ ∀ x ∈ formsL xs st fl, x.size ≤ 12) := by
          have h := formsT_small xs st fl
          rw [HFT.out] at h
          exact ⟨by omega, h.2⟩
        have hzw1 : w.heap.size < w1.heap.size := by omega
        clear hb1 d0 d1 hx hxf
        go_wp2_with fail
        go_region_held3 (fun w' => w'.cell? ⟨w.heap.size, 0, none⟩ = some (.slice a xs.length cap) ∧ w'.cell? ⟨w.heap.size, 1, none⟩ = some (.slice (some ⟨b, off, none⟩) es.length cap') ∧ w'.cell? ⟨b, off + k * 2, none⟩ = some (.string st) ∧ w'.cell? ⟨b, off + k * 2 + 1, none⟩ = some (.string fl)) (go_keep)
          (first
            | (have q2 := HB2; clear q2; go_at_call 44; refine (l2In_any _ _ _ s HTL.out).mono ?_; rintro e w3 ⟨rfl, hw3⟩; have hw4 := hw3.symm; clear hw3; subst hw4)
            | (go_at_call 34; refine (l2Forms_any _ _ xs st fl (HAr.out.below (Below.refl _ _).drew) HOK.out.1 HWK.out hx8 HXF.out.2).mono ?_; rintro e w2 ⟨vl, rfl, htl, hb2⟩; have HB2 : Hid (Below w1.heap.size w1 w2) := (Below.drew (Below.refl w1.heap.size w1)).trans hb2; have HTL : Hid (TextsAt w2 vl (formsL xs st fl)) := textRow_at htl HFS.out.1 HFS.out.2; have k0 := (HB2.out.cell (p := ⟨w.heap.size, 0, none⟩) hzw1).trans h0; have k1 := (HB2.out.cell (p := ⟨w.heap.size, 1, none⟩) hzw1).trans h1; have k2 := (HB2.out.cell (p := ⟨b, off + k * 2, none⟩) hbl).trans e0; have k3 := (HB2.out.cell (p := ⟨b, off + k * 2 + 1, none⟩) hbl).trans e1; have hbl2 : b < w2.heap.size := Nat.lt_of_lt_of_le hbl HB2.out.size; clear hb2 h0 h1 e0 e1; obtain ⟨gl, cl, rfl, hcl⟩ := htl; clear hcl))
        have HR : Hid (Below wr.heap.size wr w2) := HB1.out.trans (HB2.out.mono HB1.out.size)
        have HO2 : Hid (w2.ownsRow (w.heap.size + 1) 9 1 (.slice b1 SS.length q1) SS.length (texts SS)) := owns_below HO.out HR.out
        have HNX : Hid (stemsTo xs es s (k + 1) = SS ++ (if hasW (formsL xs st fl) s then [st] else [])) := by
          have h := stemsTo_next (xs := xs) HX.out s
          rw [HFT.out, HSS.out] at h
          exact h
        have HBF : Hid (Below (w.heap.size + 1) w0 w2) := HB.out.trans (HR.out.mono (by omega))
        have hz2 : w.heap.size + 1 ≤ w2.heap.size := by have := HB2.out.size; omega
        cases hh : hasW (formsL xs st fl) s with
        | false =>
          have HN2 : Hid (stemsTo xs es s (k + 1) = SS) := by show stemsTo xs es s (k + 1) = _; have h := HNX.out; rw [hh] at h; simpa using h
          go_wp2
          go_roundw
          case rel => exact ⟨k + 1, _, by omega, rfl, by go_num, by rw [HN2.out]; exact HO2.out, HBF.out⟩
          case measure => simp [intOf]; omega
        | true =>
          have HN2 : Hid (stemsTo xs es s (k + 1) = SS ++ [st]) := by show stemsTo xs es s (k + 1) = _; have h := HNX.out; rw [hh] at h; simpa using h
          go_wp2_with (at_builtin; refine wpList_append_own _ rfl _ _ 28 rfl (w.heap.size + 1) 9 i3 (.string ⟨#[]⟩) 1 16 Try.underlying28 hi3 hz3 hs3 hb3 rfl (by decide) _ _ _ rfl (HO2.out.alloc _) ⟨_, 0, none⟩ 1 1 [.string st] rfl rfl (cell_one_new _ _ _) (one_text st) (by unfold maxLen; omega) (by omega) (by rw [World.size_alloc]; omega) ?_; intro v' w5 hown hgrow hnil)
          go_roundw
          case rel =>
            refine ⟨k + 1, _, by omega, rfl, by go_num, ?_, Below.grown (HBF.out.alloc hz2 _) hgrow (by rw [World.size_alloc]; omega) (fun k' hk' => (HO2.out.lt k' hk').1)⟩
            rw [HN2.out, List.length_append, texts_append]
            exact hown
          case measure => simp [intOf]; omega
      · have i1 : ¬ (k : Int) < (es.length : Int) := by omega
        have hke : k = es.length := by omega
        subst hke
        have HT : Hid (TextsAt wr (.slice b1 SS.length q1) (stemsT xs es s)) := by
          rw [HS.out, HSS.out]
          refine owns_texts_all HO.out (by omega) ?_
          have h := HSZ.out
          rw [HSS.out] at h
          exact h
        go_wp2
        go_ret
        exact ⟨_, rfl, HT.out, HBW.out⟩
end Go.Proofs.Ythikcililececaa
