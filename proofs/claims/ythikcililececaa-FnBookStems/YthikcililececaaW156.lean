/-
  The keys of a map of words, sorted: the words of a book.
-/
import Derived.Test.YthikcililececaaW151
import Derived.Sort.KeysCollected
namespace Go.Proofs.Ythikcililececaa
open Go.RowKit Go.Maps Go.WideMaps
set_option linter.unusedVariables false
theorem has_len {H : Type} {w : World} {P : Program} {k : TypeId} {R : Value → Option (DataW H × List MemPlace)} {b n : Nat} {D : DataW H} (hown : w.ownsMap P k R b n D) (hk : P.underlying k = some .string) {x : List UInt8} (h : Maps.has D (.string x) = true) : x.length ≤ maxLen := by
  obtain ⟨es, rfl, hko⟩ := hown.keysOf
  rw [has_eq, List.any_eq_true] at h
  obtain ⟨p, hp, hs⟩ := h
  obtain ⟨v, hv⟩ := hko p hp
  obtain ⟨y, _, hy, hl⟩ := Maps.keyOf_str hk hv
  rw [hy] at hs
  have : y = x := by simpa [Lit.sameKey] using hs
  rw [← this]
  exact hl
theorem size_le {H : Type} {w : World} {P : Program} {k : TypeId} {R : Value → Option (DataW H × List MemPlace)} {b n : Nat} {D : DataW H} (hown : w.ownsMap P k R b n D) : Maps.size D ≤ n := by
  obtain ⟨es, clock, hb, F, hs, rfl⟩ := hown
  show List.length _ ≤ n
  rw [(Go.WideShapes.sorted_perm _).length_eq]
  simpa using hs
theorem ba_mk (s : ByteArray) : (⟨s.data.toList.toArray⟩ : ByteArray) = s := by cases s; simp
theorem keys_words {H : Type} {w : World} {P : Program} {k : TypeId} {R : Value → Option (DataW Unit × List MemPlace)} {b n : Nat} {D : DataW Unit} {ps : List (ByteArray × Nat)} {W : List ByteArray} {ss : List (List UInt8)}
    (hown : w.ownsMap P k R b n D) (K : Keyed P k) (hk : P.underlying k = some .string) (ht : Told P k D ps) (hasc : Asc W) (hm : ∀ s, s ∈ W ↔ placesOf ps s ≠ []) (hsm : ∀ s ∈ W, s.size ≤ maxLen) (hp : ss.Perm (strKeys D)) :
    ss.mergeSort (fun x y => decide (x ≤ y)) = W.map (fun s => s.data.toList) := by
  have hpw : (W.map (fun s : ByteArray => s.data.toList)).Pairwise (fun a b => a < b) := by
    rw [List.pairwise_map]
    refine List.Pairwise.imp ?_ hasc
    intro a b h
    rw [tlt_eq] at h
    exact of_decide_eq_true h
  have hc : Collected D (fun _ => false) (W.map (fun s => s.data.toList)) := by
    refine ⟨List.Pairwise.imp (fun {a b} h e => by rw [e] at h; exact List.lt_irrefl _ h) hpw, fun x => ?_⟩
    rw [List.mem_map]
    constructor
    · rintro ⟨s, hs, rfl⟩
      refine ⟨?_, rfl⟩
      rw [ht.2.2 s _ (keyOf_string_mk hk (hsm s hs))]
      simpa using (hm s).1 hs
    · rintro ⟨h, -⟩
      have hl := has_len hown hk h
      have hsz : (⟨x.toArray⟩ : ByteArray).size ≤ maxLen := by show x.toArray.size ≤ _; simpa using hl
      have h2 := ht.2.2 ⟨x.toArray⟩ _ (keyOf_string_mk hk hsz)
      have e1 : (⟨x.toArray⟩ : ByteArray).data.toList = x := by simp
      rw [e1] at h2
      refine ⟨⟨x.toArray⟩, (hm _).2 ?_, e1⟩
      rw [h2] at h
      simpa using h
  rw [mergeSort_of_perm (hp.trans (hc.perm hown K hk (fun _ => rfl)).symm)]
  refine List.mergeSort_of_pairwise (List.Pairwise.imp ?_ hpw)
  intro a b h
  exact decide_eq_true (List.le_of_lt h)
theorem enc_texts (W : List ByteArray) : (W.map (fun s => s.data.toList)).map encStr = texts W := by
  unfold texts
  rw [List.map_map]
  refine List.map_congr_left fun s _ => ?_
  simp [encStr]
theorem words_places (xs : List Aff) (es : List (ByteArray × ByteArray)) (s : ByteArray) : s ∈ wordsT xs es ↔ placesOf (pairsT xs es) s ≠ [] := by
  unfold wordsT pairsT
  split
  · rw [mem_wordsTo, knowsTo_at, placesOf_pairs, decide_eq_true_eq]
    simp [List.length_pos_iff]
  · simp [placesOf]
theorem wordsT_asc (xs : List Aff) (es : List (ByteArray × ByteArray)) : Asc (wordsT xs es) := by
  unfold wordsT
  split
  · exact wordsTo_asc xs es es.length
  · exact List.Pairwise.nil
end Go.Proofs.Ythikcililececaa
