/-
  The keys of a map of words, sorted: the words of a book.
-/
import Derived.Test.YtcmajekdalcjeaaGreatGW154
import Derived.Sort.KeysCollected
namespace Go.Proofs.YtcmajekdalcjeaaGreat
open Go.RowKit Go.Maps Go.WideMaps
set_option linter.unusedVariables false
theorem has_len {H : Type} {w : World} {P : Program} {k : TypeId} {R : Value → Option (DataW H × List MemPlace)} {b n : Nat} {D : DataW H} (hown : w.ownsMap P k R b n D) (hk : P.underlying k = some .string) {x : List UInt8} (h : Maps.has D (.string x) = true) : x.length ≤ maxLen := by
  obtain ⟨es, rfl, hko⟩ := hown.keysOf
  rw [has_eq, List.any_eq_true] at h
  obtain ⟨p, hp, hs⟩ := h
  obtain ⟨v, hv⟩ := hko p hp
  obtain ⟨y, _, hy, hl⟩ := Maps.keyOf_str hk hv
  rw [hy] at hs
  have : y = x := by simpa [Lit.sameKey] using hs
  rw [← this]
  exact hl
theorem size_le {H : Type} {w : World} {P : Program} {k : TypeId} {R : Value → Option (DataW H × List MemPlace)} {b n : Nat} {D : DataW H} (hown : w.ownsMap P k R b n D) : Maps.size D ≤ n := by
  obtain ⟨es, clock, hb, F, hs, rfl⟩ := hown
  show List.length _ ≤ n
  rw [(Go.WideShapes.sorted_perm _).length_eq]
  simpa using hs
theorem ba_mk (s : ByteArray) : (⟨s.data.toList.toArray⟩ : ByteArray) = s := by cases s; simp
theorem keys_words {H : Type} {w : World} {P : Program} {k : TypeId} {R : Value → Option (DataW Unit × List MemPlace)} {b n : Nat} {D : DataW Unit} {ps : List (ByteArray × Nat)} {W : List ByteArray} {ss : List (List UInt8)}
    (hown : w.ownsMap P k R b n D) (K : Keyed P k) (hk : P.underlying k = some .string) (ht : Told P k D ps) (hasc : Asc W) (hm : ∀ s, s ∈ W ↔ placesOf ps s ≠ []) (hsm : ∀ s ∈ W, s.size ≤ maxLen) (hp : ss.Perm (strKeys D)) :
    ss.mergeSort (fun x y => decide (x ≤ y)) = W.map (fun s => s.data.toList) := by
  have hpw : (W.map (fun s : ByteArray => s.data.toList)).Pairwise (fun a b => a < b) := by
    rw [List.pairwise_map]
    refine List.Pairwise.imp ?_ hasc
    intro a b h
    rw [tlt_eq] at h
    exact of_decide_eq_true h
  have hc : Collected D (fun _ => false) (W.map (fun s => s.data.toList)) := by
    refine ⟨List.Pairwise.imp (fun {a b} h e => by rw [e] at h; exact List.lt_irrefl _ h) hpw, fun x => ?_⟩
    rw [List.mem_map]
    constructor
    · rintro ⟨s, hs, rfl⟩
      refine ⟨?_, rfl⟩
      rw [ht.2.2 s _ (keyOf_string_mk hk (hsm s hs))]
      simpa using (hm s).1 hs
    · rintro ⟨h, -⟩
      have hl := has_len hown hk h
      have hsz : (⟨x.toArray⟩ : ByteArray).size ≤ maxLen := by show x.toArray.size ≤ _; simpa using hl
      have h2 := ht.2.2 ⟨x.toArray⟩ _ (keyOf_string_mk hk hsz)
      have e1 : (⟨x.toArray⟩ : ByteArray).data.toList = x := by simp
      rw [e1] at h2
      refine ⟨⟨x.toArray⟩, (hm _).2 ?_, e1⟩
      rw [h2] at h
      simpa using h
  rw [mergeSort_of_perm (hp.trans (hc.perm hown K hk (fun _ => rfl)).symm)]
  refine List.mergeSort_of_pairwise (List.Pairwise.imp ?_ hpw)
  intro a b h
  exact decide_eq_true (List.le_of_lt h)
theorem enc_texts (W : List ByteArray) : (W.map (fun s => s.data.toList)).map encStr = texts W := by
  unfold texts
  rw [List.map_map]
  refine List.map_congr_left fun s _ => ?_
  simp [encStr]
theorem words_places (xs : List Aff) (es : List (ByteArray × ByteArray)) (s : ByteArray) : s ∈ wordsT xs es ↔ placesOf (pairsT xs es) s ≠ [] := by
  unfold wordsT pairsT
  split
  · rw [mem_wordsTo, knowsTo_at, placesOf_pairs, decide_eq_true_eq]
    simp [List.length_pos_iff]
  · simp [placesOf]
theorem wordsT_asc (xs : List Aff) (es : List (ByteArray × ByteArray)) : Asc (wordsT xs es) := by
  unfold wordsT
  split
  · exact wordsTo_asc xs es es.length
  · exact List.Pairwise.nil
end Go.Proofs.YtcmajekdalcjeaaGreat
/-
  What words, stems and forms have to do with each other.
-/
namespace Go.Proofs.YtcmajekdalcjeaaGreat
open Go.RowKit
set_option linter.unusedVariables false
theorem hasW_eq {a b : List ByteArray} {s t : ByteArray} (h : s ∈ a ↔ t ∈ b) : hasW a s = hasW b t := by
  cases h1 : hasW a s <;> cases h2 : hasW b t <;> first | rfl | skip
  · have := (hasW_iff a s).2 (h.2 ((hasW_iff b t).1 h2)); rw [h1] at this; cases this
  · have := (hasW_iff b t).2 (h.1 ((hasW_iff a s).1 h1)); rw [h2] at this; cases this
theorem words_knows (xs : List Aff) (es : List (ByteArray × ByteArray)) (s : ByteArray) : hasW (wordsT xs es) s = knowsT xs es s := by
  have h1 : s ∈ wordsT xs es ↔ knowsT xs es s = true := by
    unfold wordsT knowsT
    cases bookT xs es with
    | true => rw [if_pos rfl, Bool.true_and]; exact mem_wordsTo xs es s es.length
    | false => simp
  cases h2 : knowsT xs es s with
  | true => exact (hasW_iff _ _).2 (h1.2 h2)
  | false =>
    cases h3 : hasW (wordsT xs es) s with
    | false => rfl
    | true => rw [h1.1 ((hasW_iff _ _).1 h3)] at h2; cases h2
theorem stems_knows (xs : List Aff) (es : List (ByteArray × ByteArray)) (s : ByteArray) : decide (0 < (stemsT xs es s).length) = knowsT xs es s := by
  unfold stemsT knowsT
  cases bookT xs es with
  | true =>
    rw [if_pos rfl, Bool.true_and, knowsTo_at, stemsTo_at xs es s es.length (Nat.le_refl _), List.length_map]
  | false => rfl
theorem form_known {xs : List Aff} {es : List (ByteArray × ByteArray)} {k : Nat} {st fl : ByteArray} (hx : es[k]? = some (st, fl)) {s : ByteArray} (hs : s ∈ formsT xs st fl) : ∀ n, k < n → knowsTo xs es s n = true
  | 0, h => absurd h (by omega)
  | n + 1, h => by
    unfold knowsTo
    rw [Bool.or_eq_true]
    by_cases e : k = n
    · subst e
      right
      rw [hx]
      exact (hasW_iff _ _).2 hs
    · exact .inl (form_known hx hs n (by omega))
theorem form_word {xs : List Aff} {es : List (ByteArray × ByteArray)} (hb : bookT xs es = true) {k : Nat} {st fl : ByteArray} (hx : es[k]? = some (st, fl)) {s : ByteArray} (hs : s ∈ formsT xs st fl) : hasW (wordsT xs es) s = true := by
  rw [words_knows]
  unfold knowsT
  rw [hb, Bool.true_and]
  exact form_known hx hs _ (List.getElem?_eq_some_iff.1 hx).1
/-- How many forms the first entries have. -/
def sumTo (xs : List Aff) (es : List (ByteArray × ByteArray)) : Nat → Nat
  | 0 => 0
  | k + 1 => sumTo xs es k + (match es[k]? with | some e => (formsT xs e.1 e.2).length | none => 0)
theorem words_sum (xs : List Aff) (es : List (ByteArray × ByteArray)) : ∀ k, (wordsTo xs es k).length ≤ sumTo xs es k
  | 0 => Nat.le_refl _
  | k + 1 => by
    have ih := words_sum xs es k
    unfold wordsTo sumTo
    have h := puts_len (match es[k]? with | some e => formsT xs e.1 e.2 | none => []) (wordsTo xs es k)
    split at h
    · next e he => rw [he]; dsimp only; omega
    · next he => rw [he]; dsimp only at h ⊢; simp only [List.length_nil] at h; omega
theorem sumTo_next {xs : List Aff} {es : List (ByteArray × ByteArray)} {k : Nat} {st fl : ByteArray} (hx : es[k]? = some (st, fl)) : sumTo xs es (k + 1) = sumTo xs es k + (formsT xs st fl).length := by
  rw [sumTo, hx]
theorem sumTo_le (xs : List Aff) (es : List (ByteArray × ByteArray)) : ∀ k, sumTo xs es k ≤ 100 * k
  | 0 => Nat.le_refl _
  | k + 1 => by
    have ih := sumTo_le xs es k
    unfold sumTo
    split
    · next e _ => have := (formsT_small xs e.1 e.2).1; omega
    · omega
/-- Stems of a book differ. -/
theorem stems_differ {xs : List Aff} {es : List (ByteArray × ByteArray)} (hb : bookT xs es = true) : ∀ {i j : Nat} {p q : ByteArray × ByteArray}, i < j → es[i]? = some p → es[j]? = some q → tlt p.1 q.1 = true
  | i, 0, p, q, h, _, _ => absurd h (by omega)
  | i, j + 1, p, q, h, hp, hq => by
    simp only [bookT, entsT, Bool.and_eq_true, List.all_eq_true, List.mem_range] at hb
    have hj : j + 1 < es.length := (List.getElem?_eq_some_iff.1 hq).1
    have h1 := hb.2.2 (j + 1) hj
    have hr : es[j]? = some es[j] := List.getElem?_eq_getElem (by omega)
    rw [entAt_succ hr hq] at h1
    simp only [Bool.and_eq_true] at h1
    have h2 : tlt es[j].1 q.1 = true := h1.2
    by_cases e : i = j
    · subst e
      rw [hr] at hp
      cases hp
      exact h2
    · exact tlt_trans (stems_differ (xs := xs) (es := es) (by simp only [bookT, entsT, Bool.and_eq_true, List.all_eq_true, List.mem_range]; exact hb) (by omega) hp hr) h2
theorem mem_stemsTo (xs : List Aff) (es : List (ByteArray × ByteArray)) (s t : ByteArray) : ∀ k, t ∈ stemsTo xs es s k ↔ ∃ i e, i < k ∧ es[i]? = some e ∧ e.1 = t ∧ s ∈ formsT xs e.1 e.2
  | 0 => by simp [stemsTo]
  | k + 1 => by
    have ih := mem_stemsTo xs es s t k
    unfold stemsTo
    rw [List.mem_append, ih]
    constructor
    · rintro (⟨i, e, hi, h⟩ | h)
      · exact ⟨i, e, by omega, h⟩
      · split at h
        · next e he =>
          split at h
          · next hw =>
            rw [List.mem_singleton] at h
            exact ⟨k, e, by omega, he, h.symm, (hasW_iff _ _).1 hw⟩
          · cases h
        · cases h
    · rintro ⟨i, e, hi, he, ht, hs⟩
      by_cases h : i = k
      · subst h
        right
        rw [he]
        dsimp only
        rw [if_pos ((hasW_iff _ _).2 hs), List.mem_singleton]
        exact ht.symm
      · exact .inl ⟨i, e, by omega, he, ht, hs⟩
theorem stem_makes {xs : List Aff} {es : List (ByteArray × ByteArray)} (hb : bookT xs es = true) {k : Nat} {st fl : ByteArray} (hx : es[k]? = some (st, fl)) (s : ByteArray) : hasW (stemsT xs es s) st = hasW (formsT xs st fl) s := by
  refine hasW_eq ?_
  unfold stemsT
  rw [if_pos hb, mem_stemsTo]
  constructor
  · rintro ⟨i, e, hi, he, ht, hs⟩
    have hik : i = k := by
      rcases Nat.lt_trichotomy i k with h | h | h
      · have := stems_differ hb h he hx
        rw [ht, tlt_irrefl] at this
        cases this
      · exact h
      · have := stems_differ hb h hx he
        rw [← ht, tlt_irrefl] at this
        cases this
    subst hik
    rw [hx] at he
    cases he
    exact hs
  · intro hs
    exact ⟨k, (st, fl), (List.getElem?_eq_some_iff.1 hx).1, hx, rfl, hs⟩
theorem stem_own {xs : List Aff} {st fl : ByteArray} : st ∈ formsL xs st fl := (oneT_mem _ _ _ _ _).2 (.inl ((oneT_mem _ _ _ _ _).2 (.inl (by simp))))
theorem stem_self {xs : List Aff} {es : List (ByteArray × ByteArray)} (hb : bookT xs es = true) {k : Nat} {st fl : ByteArray} (hx : es[k]? = some (st, fl)) : hasW (stemsT xs es st) st = true := by
  rw [stem_makes hb hx, hasW_iff, formsT_L hb hx]
  exact stem_own
/-- What an affix of an entry makes of its stem is among its forms. -/
theorem affix_form {xs : List Aff} {st fl : ByteArray} {i : Nat} {a : Aff} (ha : xs[i]? = some a) (hf : flagIn fl a.flag = true) (hd : (doT a st).2 = true) : (doT a st).1 ∈ formsL xs st fl := by
  have hm := List.mem_of_getElem? ha
  have h1 : do1 a st = some (doT a st).1 := if_pos hd
  cases hfr : a.front with
  | true => exact (oneT_mem _ _ _ _ _).2 (.inr ⟨a, hm, by simp [tkB, hfr, hf], st, (oneT_mem _ _ _ _ _).2 (.inl (by simp)), h1⟩)
  | false => exact (oneT_mem _ _ _ _ _).2 (.inl ((oneT_mem _ _ _ _ _).2 (.inr ⟨a, hm, by simp [tkB, hfr, hf], st, by simp, h1⟩)))
theorem flagIn_none (f : ByteArray) : flagIn ⟨#[]⟩ f = false := rfl
theorem oneT_none (xs : List Aff) (front : Bool) (ws : List ByteArray) : oneT xs ⟨#[]⟩ front ws = ws := by
  unfold oneT
  have : ∀ (ys : List Aff) (o : List ByteArray), ys.foldl (oneF ⟨#[]⟩ front ws) o = o := by
    intro ys
    induction ys with
    | nil => intro o; rfl
    | cons y ys ih => intro o; rw [List.foldl_cons, oneF, tkB, flagIn_none, Bool.and_false, if_neg (by decide)]; exact ih o
  exact this xs ws
theorem forms_alone (xs : List Aff) (st : ByteArray) : formsL xs st ⟨#[]⟩ = [st] := by
  unfold formsL
  rw [oneT_none, oneT_none]
end Go.Proofs.YtcmajekdalcjeaaGreat
