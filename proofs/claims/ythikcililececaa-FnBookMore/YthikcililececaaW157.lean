/-
  impl.BookWords, spec.BookWords.
-/
import Derived.Test.YthikcililececaaGW170
import Derived.Test.YthikcililececaaW153
import Derived.Test.YthikcililececaaGW154
import Derived.Test.YthikcililececaaIter
namespace Go.Proofs.Ythikcililececaa
open Go.RowKit Go.Maps Go.WideMaps
set_option linter.unusedVariables false
set_option maxRecDepth 100000 in
set_option maxHeartbeats 2000000 in
theorem implBookWords_any (w : World) (va ve : Value) (xs : List Aff) (es : List (ByteArray × ByteArray)) (ha : AffsAt w va xs) (he : EntsAt w ve es) :
    Calls Try.prog 15 #[.agg #[va, ve]] w fun e w' => ∃ v, e = .returned v ∧ TextsRow w.heap.size w'.heap.size w' v (wordsT xs es) ∧ Below w.heap.size w w' := by
  obtain ⟨a, cap, rfl, hc, hm⟩ := ha.form
  obtain ⟨a', cap', rfl, hc', hm'⟩ := he.form
  have HA : Hid (AffsAt w (.slice a xs.length cap) xs) := ha
  have HE : Hid (EntsAt w (.slice a' es.length cap') es) := he
  clear ha he
  have HB0 : Hid (Below w.heap.size w (w.alloc (.cells #[.slice a xs.length cap, .slice a' es.length cap'] 40))) := (Below.refl _ _).alloc (Nat.le_refl _) _
  go_enter Try.func15, Try.ntmps15
  go_wp2_with fail
  refine (wordStems_any _ _ _ xs es (HA.out.below HB0.out) (HE.out.below HB0.out)).mono ?_
  rintro e w1 ⟨n, D, rfl, hg, hn, ht, hb1, hz⟩
  have HB1 : Hid (Below w.heap.size w w1) := HB0.out.trans (hb1.mono HB0.out.size)
  have HT : Hid (Told Try.prog 9 D (pairsT xs es)) := ht
  rw [World.size_alloc] at hg hz ⊢
  obtain ⟨R, hown⟩ : ∃ R : Value → Option (DataW Unit × List MemPlace), w1.ownsMap Try.prog 9 R (w.heap.size + 1 + 1) n D := by
    obtain ⟨es', clock, h1, F, hs, hD, _⟩ := hg
    exact ⟨_, es', clock, h1, F, hs, hD⟩
  have HO : Hid (w1.ownsMap Try.prog 9 R (w.heap.size + 1 + 1) n D) := hown
  have hsz := size_le hown
  have hmax : Maps.size D ≤ maxLen := by unfold maxLen; omega
  have hbytes : Maps.size D * 16 ≤ 140737488355328 := by omega
  clear hb1 ht hg hown
  go_wp2_with fail
  refine ((callsIn_wide (n := 5)).1 (Try.maps_Keys_39 _ _)).mono ?_
  rintro e w2 ⟨rfl, rfl⟩
  go_wp2_with fail
  refine ((callsIn_wide (n := 5)).1 (Try.slices_Sorted_keys_38_39 (w.heap.size + 1 + 1) n D R w1 HO.out hmax hbytes)).mono ?_
  rintro e w3 ⟨v, ss, rfl, hS, hrow, hnil, hb⟩
  have hkw := keys_words (H := Unit) HO.out stemKey Try.underlying9 HT.out (wordsT_asc xs es) (words_places xs es) (fun s hs => by have := (wordsT_small xs es).2 s hs; unfold maxLen; omega) hS
  have hlen : ss.length = (wordsT xs es).length := by
    have := congrArg List.length hkw
    rw [List.length_mergeSort, List.length_map] at this
    exact this
  rw [hkw, enc_texts, hlen] at hrow
  have HR : Hid (w3.ownsRow (w1.alloc (.cells #[.map (some (w.heap.size + 1 + 1))] 76)).heap.size 9 1 v (wordsT xs es).length (texts (wordsT xs es))) := hrow
  have HB3 : Hid (Below w.heap.size w w3) := (HB1.out.alloc HB1.out.size _).trans (hb.mono (by rw [World.size_alloc]; have := HB1.out.size; omega))
  obtain ⟨b0, c0, rfl⟩ := owns_form hrow
  clear hkw hlen hrow hnil hb hS
  go_wp2
  go_ret
  refine ⟨_, rfl, ⟨(rowOwn_of_owns HR.out (C := TxTo _ _) (fun f hf i x hi hx => hf i _ (by simp [texts, hx]))).weak (by rw [World.size_alloc]; have := HB1.out.size; omega) (Nat.le_refl _), fun i x hx => ?_⟩, HB3.out⟩
  have := (wordsT_small xs es).2 x (List.mem_of_getElem? hx)
  unfold maxLen
  omega
set_option maxRecDepth 100000 in
set_option maxHeartbeats 1000000 in
theorem specBookWords_any (w : World) (va ve : Value) (xs : List Aff) (es : List (ByteArray × ByteArray)) (ha : AffsAt w va xs) (he : EntsAt w ve es) :
    Calls Try.prog 16 #[.agg #[va, ve]] w fun e w' => ∃ v, e = .returned v ∧ TextsAt w' v (wordsT xs es) ∧ Below w.heap.size w w' := by
  obtain ⟨a, cap, rfl, hc, hm⟩ := ha.form
  obtain ⟨a', cap', rfl, hc', hm'⟩ := he.form
  have HA : Hid (AffsAt w (.slice a xs.length cap) xs) := ha
  have HE : Hid (EntsAt w (.slice a' es.length cap') es) := he
  clear ha he
  have HB0 : Hid (Below w.heap.size w (w.alloc (.cells #[.slice a xs.length cap, .slice a' es.length cap'] 40))) := (Below.refl _ _).alloc (Nat.le_refl _) _
  cases hbk : bookT xs es with
  | false =>
    have HK : Hid (wordsT xs es = []) := if_neg (by rw [hbk]; decide)
    go_enter Try.func16, Try.ntmps16
    go_wp2_with fail
    refine (specBookOk_any _ _ _ xs es (HA.out.below HB0.out) (HE.out.below HB0.out)).mono ?_
    rintro e w1 ⟨rfl, hb1⟩
    rw [hbk]
    have HB1 : Hid (Below w.heap.size w w1) := HB0.out.trans (hb1.mono HB0.out.size)
    clear hb1
    go_wp2
    go_ret
    rw [HK.out]
    exact ⟨_, rfl, textsAt_nil _ _ _, HB1.out.alloc HB1.out.size _⟩
  | true =>
    have HK : Hid (wordsT xs es = wordsTo xs es es.length) := if_pos hbk
    have HWS : Hid ((wordsTo xs es es.length).length ≤ 1000000 ∧ ∀ x ∈ wordsTo xs es es.length, x.size ≤ 12) := by
      have h := wordsT_small xs es
      rw [HK.out] at h
      exact ⟨by omega, h.2⟩
    have HBK : Hid (bookT xs es = true) := hbk
    go_enter Try.func16, Try.ntmps16
    go_wp2_with fail
    refine (specBookOk_any _ _ _ xs es (HA.out.below HB0.out) (HE.out.below HB0.out)).mono ?_
    rintro e w1 ⟨rfl, hb1⟩
    rw [hbk]
    have HB1 : Hid (Below w.heap.size w w1) := HB0.out.trans (hb1.mono HB0.out.size)
    have c0 : w1.cell? ⟨w.heap.size, 0, none⟩ = some (.slice a xs.length cap) := (hb1.cell (p := ⟨w.heap.size, 0, none⟩) (by simp)).trans (by simp [go_sem])
    have c1 : w1.cell? ⟨w.heap.size, 1, none⟩ = some (.slice a' es.length cap') := (hb1.cell (p := ⟨w.heap.size, 1, none⟩) (by simp)).trans (by simp [go_sem])
    clear hb1
    go_wp2_with fail
    refine (l2Words_any _ _ _ xs es (HA.out.below HB1.out) (HE.out.below HB1.out) HBK.out).mono ?_
    rintro e w2 ⟨v2, rfl, ht2, hb2⟩
    have HB2 : Hid (Below w.heap.size w w2) := HB1.out.trans (hb2.mono HB1.out.size)
    have HT2 : Hid (TextsAt w2 v2 (wordsTo xs es es.length)) := textRow_at ht2 HWS.out.1 HWS.out.2
    obtain ⟨g2, cp2, rfl, -⟩ := ht2
    clear hb2 c0 c1
    go_wp2
    go_ret
    rw [HK.out]
    exact ⟨_, rfl, HT2.out, HB2.out⟩
end Go.Proofs.Ythikcililececaa
