/-
  The words that an entry makes: spec.l2Forms, spec.Forms.
-/
import Derived.Test.YthikcililececaaW130
import Derived.Test.YthikcililececaaW77
import Derived.Test.YthikcililececaaW35
namespace Go.Proofs.Ythikcililececaa
open Go.RowKit
set_option linter.unusedVariables false
theorem one_row (w : World) (st : ByteArray) : TextRow (w.alloc (.cells #[.string st] 9)) (.slice (some ⟨w.heap.size, 0, none⟩) 1 1) [st] := by
  refine ⟨_, 1, rfl, Nat.le_refl _, fun i s hs => ?_, _, heap_alloc_last _ _⟩
  have h : i = 0 := by have := (List.getElem?_eq_some_iff.1 hs).1; simp at this; omega
  subst h
  rw [cell_of_row _ _ 0 _ _ _ (heap_alloc_last w _)]
  simp at hs
  simp [hs]
theorem oneT_len (xs : List Aff) (fl : ByteArray) (front : Bool) (ws : List ByteArray) : (oneT xs fl front ws).length ≤ ws.length + xs.length * ws.length := ones_len fl front ws xs ws
theorem TextRow.drew {w : World} {v : Value} {ss : List ByteArray} (h : TextRow w v ss) : TextRow w.drew v ss := h.below (Below.refl _ _).drew
set_option maxRecDepth 100000 in
set_option maxHeartbeats 400000 in
theorem l2Forms_any (w : World) (va : Value) (xs : List Aff) (st fl : ByteArray) (ha : AffsAt w va xs) (hok : ∀ a ∈ xs, affOk a = true) (hst : wok st = true) (hn : xs.length ≤ 8) (hfl : fl.size ≤ maxLen) :
    Calls Try.prog 34 #[va, .agg #[.string st, .string fl]] w fun e w' => ∃ v', e = .returned v' ∧ TextRow w' v' (formsL xs st fl) ∧ Below w.heap.size w w' := by
  obtain ⟨a, cap, rfl, hc, hmx⟩ := ha.form
  have HA : Hid (AffsAt w (.slice a xs.length cap) xs) := ha
  have HOK : Hid (∀ a ∈ xs, affOk a = true) := hok
  have HWK : Hid (∀ x ∈ [st], wok x = true) := fun x hx => by rw [List.mem_singleton.1 hx]; exact hst
  have HFL : Hid (fl.size ≤ maxLen) := hfl
  have H1 : Hid ((oneT xs fl false [st]).length ≤ 100) := by
    have := oneT_len xs fl false [st]
    simp only [List.length_singleton] at this
    show _ ≤ 100
    omega
  have H2 : Hid (∀ x ∈ oneT xs fl false [st], wok x = true) := oneT_wok xs fl false [st] HWK.out
  have HL1 : Hid (([st] : List ByteArray).length ≤ 100) := by show _ ≤ 100; simp
  have HBa : Hid (Below w.heap.size w (World.drew ((w.alloc (.cells #[.string st, .string fl] 25)).alloc (.cells #[.string st] 9)))) := (((Below.refl _ _).alloc (Nat.le_refl _) _).alloc (by simp) _).drew
  have HRa : Hid (TextRow (World.drew ((w.alloc (.cells #[.string st, .string fl] 25)).alloc (.cells #[.string st] 9))) (.slice (some ⟨w.heap.size + 1, 0, none⟩) 1 1) [st]) := by
    have h := (one_row (w.alloc (.cells #[.string st, .string fl] 25)) st).drew
    rw [World.size_alloc] at h
    exact h
  have HCa : Hid (World.cell? (World.drew ((w.alloc (.cells #[.string st, .string fl] 25)).alloc (.cells #[.string st] 9))) ⟨w.heap.size, 0, none⟩ = some (.string st) ∧ World.cell? (World.drew ((w.alloc (.cells #[.string st, .string fl] 25)).alloc (.cells #[.string st] 9))) ⟨w.heap.size, 1, none⟩ = some (.string fl)) := by
    have h : (World.heap (World.drew ((w.alloc (.cells #[.string st, .string fl] 25)).alloc (.cells #[.string st] 9))))[w.heap.size]? = some (.cells #[.string st, .string fl] 25 (0, 0)) := heap_first w _ _
    show _ ∧ _
    exact ⟨by rw [cell_of_row _ _ 0 _ _ _ h]; rfl, by rw [cell_of_row _ _ 1 _ _ _ h]; rfl⟩
  clear ha hok hst hfl
  unfold maxLen at hmx
  go_enter Try.func34, Try.ntmps34
  go_wp2_with fail
  go_region_held3 (fun w' => w'.cell? ⟨w.heap.size, 0, none⟩ = some (.string st) ∧ w'.cell? ⟨w.heap.size, 1, none⟩ = some (.string fl)) (go_keep)
    (first
      | (have q2 := HB2; clear q2; go_at_call 56; refine (l2One_any _ _ _ xs fl true (oneT xs fl false [st]) (HA.out.below HB2.out) HT2.out HOK.out H2.out hn H1.out HFL.out).mono ?_; rintro e w3 ⟨v3, rfl, ht3, hb3⟩; have k2 := (hb3.cell (p := ⟨w.heap.size, 0, none⟩) hz2).trans k0; have k3 := (hb3.cell (p := ⟨w.heap.size, 1, none⟩) hz2).trans k1)
      | (go_at_call 56; refine (l2One_any _ _ _ xs fl false [st] (HA.out.below HBa.out) HRa.out HOK.out HWK.out hn HL1.out HFL.out).mono ?_; rintro e w2 ⟨v2, rfl, ht2, hb2⟩; have HB2 : Hid (Below w.heap.size w w2) := HBa.out.trans (hb2.mono (by simp; omega)); have HT2 : Hid (TextRow w2 v2 (oneT xs fl false [st])) := ht2; have k0 := (hb2.cell (p := ⟨w.heap.size, 0, none⟩) (by simp; omega)).trans HCa.out.1; have k1 := (hb2.cell (p := ⟨w.heap.size, 1, none⟩) (by simp; omega)).trans HCa.out.2; have hz2 : w.heap.size < w2.heap.size := (by have := hb2.size; simp at this; omega); clear hb2 ht2))
  all_goals
    go_wp2
    go_ret
    exact ⟨_, rfl, ht3, HB2.out.trans (hb3.mono HB2.out.size)⟩
/-- What Forms answers. -/
def formsT (xs : List Aff) (st fl : ByteArray) : List ByteArray := if affsT xs && entT st fl then formsL xs st fl else []
theorem affsT_all {xs : List Aff} (h : affsT xs = true) : (∀ a ∈ xs, affOk a = true) ∧ xs.length ≤ 8 := by
  simp only [affsT, Bool.and_eq_true, decide_eq_true_eq, List.all_eq_true, List.mem_range] at h
  refine ⟨fun a ha => ?_, h.1⟩
  obtain ⟨i, hi, he⟩ := List.mem_iff_getElem.1 ha
  have h1 := h.2 i hi
  have h2 : xs[i]? = some a := by rw [List.getElem?_eq_getElem hi, he]
  rw [affAt_at h2] at h1
  simp only [Bool.and_eq_true] at h1
  exact h1.1
theorem formsL_len {xs : List Aff} (st fl : ByteArray) (h : xs.length ≤ 8) : (formsL xs st fl).length ≤ 100 := by
  have h1 := oneT_len xs fl false [st]
  have h2 := oneT_len xs fl true (oneT xs fl false [st])
  simp only [List.length_singleton, Nat.mul_one] at h1
  have h3 : xs.length * (oneT xs fl false [st]).length ≤ 8 * 9 := Nat.mul_le_mul h (by omega)
  unfold formsL
  omega
theorem formsL_wok {xs : List Aff} {st fl : ByteArray} (h : wok st = true) : ∀ x ∈ formsL xs st fl, wok x = true :=
  oneT_wok _ _ _ _ (oneT_wok _ _ _ _ fun x hx => by rw [List.mem_singleton.1 hx]; exact h)
theorem formsT_small (xs : List Aff) (st fl : ByteArray) : (formsT xs st fl).length ≤ 100 ∧ ∀ x ∈ formsT xs st fl, x.size ≤ 12 := by
  unfold formsT
  split
  · next h =>
    simp only [Bool.and_eq_true, entT] at h
    exact ⟨formsL_len st fl (affsT_all h.1).2, fun x hx => by
      have := formsL_wok h.2.1 x hx
      simp only [wok, Bool.and_eq_true, decide_eq_true_eq] at this
      omega⟩
  · exact ⟨by simp, fun x hx => by cases hx⟩
theorem textRow_at {w : World} {v : Value} {ss : List ByteArray} (h : TextRow w v ss) (hl : ss.length ≤ 1000000) (hs : ∀ x ∈ ss, x.size ≤ 12) : TextsAt w v ss := by
  obtain ⟨g, cap, hv, hc, hcell, cur, hcur⟩ := h
  refine ⟨_, cap, hv, hc, by unfold maxLen; omega, fun i x hx => ?_, fun _ => ⟨g, 0, rfl, lt_of_block hcur, fun i x hx => ?_⟩⟩
  · have := hs x (List.mem_of_getElem? hx)
    unfold maxLen
    omega
  · rw [Nat.zero_add]
    exact hcell i x hx
theorem textsAt_nil (w : World) (a : Option Addr) (cap : Nat) : TextsAt w (.slice a 0 cap) [] := ⟨a, cap, rfl, Nat.zero_le _, Nat.zero_le _, fun i x hx => by simp at hx, fun hn => absurd rfl hn⟩
set_option maxRecDepth 100000 in
set_option maxHeartbeats 400000 in
theorem specForms_any (w : World) (va : Value) (xs : List Aff) (st fl : ByteArray) (ha : AffsAt w va xs) (h1 : st.size ≤ maxLen) (hfl : fl.size ≤ maxLen) :
    Calls Try.prog 10 #[va, .agg #[.string st, .string fl]] w fun e w' => ∃ v', e = .returned v' ∧ TextsAt w' v' (formsT xs st fl) ∧ Below w.heap.size w w' := by
  obtain ⟨a, cap, rfl, hc, hmx⟩ := ha.form
  have HA : Hid (AffsAt w (.slice a xs.length cap) xs) := ha
  have HS : Hid (st.size ≤ maxLen) := h1
  have HFL : Hid (fl.size ≤ maxLen) := hfl
  have HBa : Hid (Below w.heap.size w (w.alloc (.cells #[.string st, .string fl] 25))) := (Below.refl _ _).alloc (Nat.le_refl _) _
  have HCa : Hid (World.cell? (w.alloc (.cells #[.string st, .string fl] 25)) ⟨w.heap.size, 0, none⟩ = some (.string st) ∧ World.cell? (w.alloc (.cells #[.string st, .string fl] 25)) ⟨w.heap.size, 1, none⟩ = some (.string fl)) := by
    have h : (World.heap (w.alloc (.cells #[.string st, .string fl] 25)))[w.heap.size]? = some (.cells #[.string st, .string fl] 25 (0, 0)) := heap_alloc_last w _
    show _ ∧ _
    exact ⟨by rw [cell_of_row _ _ 0 _ _ _ h]; rfl, by rw [cell_of_row _ _ 1 _ _ _ h]; rfl⟩
  clear ha h1 hfl
  unfold maxLen at hmx
  have HSM : Hid ((formsT xs st fl).length ≤ 100 ∧ ∀ x ∈ formsT xs st fl, x.size ≤ 12) := formsT_small xs st fl
  cases hok : affsT xs with
  | false =>
    have HF : Hid (formsT xs st fl = []) := if_neg (by simp [hok])
    go_enter Try.func10, Try.ntmps10
    go_wp2_with fail
    refine (l2Affixes_any _ _ xs (HA.out.below HBa.out)).mono ?_
    rintro e w1 ⟨rfl, hb1⟩
    rw [hok]
    have HB1 : Hid (Below w.heap.size w w1) := HBa.out.trans (hb1.mono HBa.out.size)
    clear hb1
    go_wp2
    go_ret
    rw [HF.out]
    exact ⟨_, rfl, textsAt_nil _ _ _, HB1.out.alloc HB1.out.size _⟩
  | true =>
    have HOK : Hid ((∀ a ∈ xs, affOk a = true) ∧ xs.length ≤ 8) := affsT_all hok
    cases hen : entT st fl with
    | false =>
      have HF : Hid (formsT xs st fl = []) := if_neg (by simp [hen])
      go_enter Try.func10, Try.ntmps10
      go_wp2_with fail
      refine (l2Affixes_any _ _ xs (HA.out.below HBa.out)).mono ?_
      rintro e w1 ⟨rfl, hb1⟩
      rw [hok]
      have HB1 : Hid (Below w.heap.size w w1) := HBa.out.trans (hb1.mono HBa.out.size)
      have k0 := (hb1.cell (p := ⟨w.heap.size, 0, none⟩) (by simp)).trans HCa.out.1
      have k1 := (hb1.cell (p := ⟨w.heap.size, 1, none⟩) (by simp)).trans HCa.out.2
      clear hb1
      go_wp2_with fail
      refine (l2Entry_any st fl _ HS.out HFL.out).mono ?_
      rintro e w2 ⟨rfl, hb2⟩
      rw [hen]
      have HB2 : Hid (Below w.heap.size w w2) := HB1.out.trans (hb2.mono HB1.out.size)
      clear hb2 k0 k1
      go_wp2
      go_ret
      rw [HF.out]
      exact ⟨_, rfl, textsAt_nil _ _ _, HB2.out.alloc HB2.out.size _⟩
    | true =>
      have HF : Hid (formsT xs st fl = formsL xs st fl) := if_pos (by simp [hok, hen])
      have HW : Hid (wok st = true) := by
        simp only [entT, Bool.and_eq_true] at hen
        exact hen.1
      go_enter Try.func10, Try.ntmps10
      go_wp2_with fail
      refine (l2Affixes_any _ _ xs (HA.out.below HBa.out)).mono ?_
      rintro e w1 ⟨rfl, hb1⟩
      rw [hok]
      have HB1 : Hid (Below w.heap.size w w1) := HBa.out.trans (hb1.mono HBa.out.size)
      have k0 := (hb1.cell (p := ⟨w.heap.size, 0, none⟩) (by simp)).trans HCa.out.1
      have k1 := (hb1.cell (p := ⟨w.heap.size, 1, none⟩) (by simp)).trans HCa.out.2
      have hz1 : w.heap.size < w1.heap.size := by have := hb1.size; simp at this; omega
      clear hb1
      go_wp2_with fail
      refine (l2Entry_any st fl _ HS.out HFL.out).mono ?_
      rintro e w2 ⟨rfl, hb2⟩
      rw [hen]
      have HB2 : Hid (Below w.heap.size w w2) := HB1.out.trans (hb2.mono HB1.out.size)
      have k2 := (hb2.cell (p := ⟨w.heap.size, 0, none⟩) hz1).trans k0
      have k3 := (hb2.cell (p := ⟨w.heap.size, 1, none⟩) hz1).trans k1
      clear hb2 k0 k1
      go_wp2_with fail
      refine (l2Forms_any _ _ xs st fl (HA.out.below HB2.out) HOK.out.1 HW.out HOK.out.2 HFL.out).mono ?_
      rintro e w3 ⟨v3, rfl, ht3, hb3⟩
      have HT3 : Hid (TextRow w3 v3 (formsL xs st fl)) := ht3
      have HB3 : Hid (Below w.heap.size w w3) := HB2.out.trans (hb3.mono HB2.out.size)
      clear hb3 ht3 k2 k3
      go_wp2
      go_ret
      have hs := HSM.out
      rw [HF.out] at hs ⊢
      exact ⟨_, rfl, textRow_at HT3.out (by omega) hs.2, HB3.out⟩
end Go.Proofs.Ythikcililececaa
