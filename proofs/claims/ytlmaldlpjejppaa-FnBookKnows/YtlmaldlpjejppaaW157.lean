/-
  impl.BookWords, spec.BookWords.
-/
import Derived.Test.YtlmaldlpjejppaaGW170
import Derived.Test.YtlmaldlpjejppaaW153
import Derived.Test.YtlmaldlpjejppaaGW154
import Derived.Test.YtlmaldlpjejppaaIter
namespace Go.Proofs.Ytlmaldlpjejppaa
open Go.RowKit Go.Maps Go.WideMaps
set_option linter.unusedVariables false
set_option maxRecDepth 100000 in
set_option maxHeartbeats 2000000 in
theorem implBookWords_any (w : World) (va ve : Value) (xs : List Aff) (es : List (ByteArray × ByteArray)) (ha : AffsAt w va xs) (he : EntsAt w ve es) :
    Calls Try.prog 9 #[.agg #[va, ve]] w fun e w' => ∃ v, e = .returned v ∧ TextsRow w.heap.size w'.heap.size w' v (wordsT xs es) ∧ Below w.heap.size w w' := by
  obtain ⟨a, cap, rfl, hc, hm⟩ := ha.form
  obtain ⟨a', cap', rfl, hc', hm'⟩ := he.form
  have HA : Hid (AffsAt w (.slice a xs.length cap) xs) := ha
  have HE : Hid (EntsAt w (.slice a' es.length cap') es) := he
  clear ha he
  have HB0 : Hid (Below w.heap.size w (w.alloc (.cells #[.slice a xs.length cap, .slice a' es.length cap'] 26))) := (Below.refl _ _).alloc (Nat.le_refl _) _
  go_enter Try.func9, Try.ntmps9
  go_wp2_with fail
  refine (wordStems_any _ _ _ xs es (HA.out.below HB0.out) (HE.out.below HB0.out)).mono ?_
  rintro e w1 ⟨n, D, rfl, hg, hn, ht, hb1, hz⟩
  have HB1 : Hid (Below w.heap.size w w1) := HB0.out.trans (hb1.mono HB0.out.size)
  have HT : Hid (Told Try.prog 9 D (pairsT xs es)) := ht
  rw [World.size_alloc] at hg hz ⊢
  obtain ⟨R, hown⟩ : ∃ R : Value → Option (DataW Unit × List MemPlace), w1.ownsMap Try.prog 9 R (w.heap.size + 1 + 1) n D := by
    obtain ⟨es', clock, h1, F, hs, hD, _⟩ := hg
    exact ⟨_, es', clock, h1, F, hs, hD⟩
  have HO : Hid (w1.ownsMap Try.prog 9 R (w.heap.size + 1 + 1) n D) := hown
  have hsz := size_le hown
  have hmax : Maps.size D ≤ maxLen := by unfold maxLen; omega
  have hbytes : Maps.size D * 16 ≤ 140737488355328 := by omega
  clear hb1 ht hg hown
  go_wp2_with fail
  refine ((callsIn_wide (n := 5)).1 (Try.maps_Keys_18 _ _)).mono ?_
  rintro e w2 ⟨rfl, rfl⟩
  go_wp2_with fail
  refine ((callsIn_wide (n := 5)).1 (Try.slices_Sorted_keys_17_18 (w.heap.size + 1 + 1) n D R w1 HO.out hmax hbytes)).mono ?_
  rintro e w3 ⟨v, ss, rfl, hS, hrow, hnil, hb⟩
  have hkw := keys_words (H := Unit) HO.out stemKey Try.underlying9 HT.out (wordsT_asc xs es) (words_places xs es) (fun s hs => by have := (wordsT_small xs es).2 s hs; unfold maxLen; omega) hS
  have hlen : ss.length = (wordsT xs es).length := by
    have := congrArg List.length hkw
    rw [List.length_mergeSort, List.length_map] at this
    exact this
  rw [hkw, enc_texts, hlen] at hrow
  have HR : Hid (w3.ownsRow (w1.alloc (.cells #[.map (some (w.heap.size + 1 + 1))] 40)).heap.size 9 1 v (wordsT xs es).length (texts (wordsT xs es))) := hrow
  have HB3 : Hid (Below w.heap.size w w3) := (HB1.out.alloc HB1.out.size _).trans (hb.mono (by rw [World.size_alloc]; have := HB1.out.size; omega))
  obtain ⟨b0, c0, rfl⟩ := owns_form hrow
  clear hkw hlen hrow hnil hb hS
  go_wp2
  go_ret
  refine ⟨_, rfl, ⟨(rowOwn_of_owns HR.out (C := TxTo _ _) (fun f hf i x hi hx => hf i _ (by simp [texts, hx]))).weak (by rw [World.size_alloc]; have := HB1.out.size; omega) (Nat.le_refl _), fun i x hx => ?_⟩, HB3.out⟩
  have := (wordsT_small xs es).2 x (List.mem_of_getElem? hx)
  unfold maxLen
  omega
end Go.Proofs.Ytlmaldlpjejppaa
