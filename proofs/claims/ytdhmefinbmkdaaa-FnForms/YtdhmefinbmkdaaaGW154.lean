/-
  Words of a book, with the places of the entries that make them: models.
-/
import Derived.Test.YtdhmefinbmkdaaaGW131
import Derived.Test.YtdhmefinbmkdaaaGW78
import Derived.Test.YtdhmefinbmkdaaaW150
import Derived.Test.YtdhmefinbmkdaaaW129
import Derived.Deep.RegionHeld3
namespace Go.Proofs.Ytdhmefinbmkdaaa
open Go.RowKit
set_option linter.unusedVariables false
theorem bookT_ent {xs : List Aff} {es : List (ByteArray × ByteArray)} (h : bookT xs es = true) {i : Nat} {e : ByteArray × ByteArray} (he : es[i]? = some e) : entT e.1 e.2 = true := by
  simp only [bookT, entsT, Bool.and_eq_true, List.all_eq_true, List.mem_range] at h
  have h1 := h.2.2 i (List.getElem?_eq_some_iff.1 he).1
  unfold entAt at h1
  rw [he] at h1
  simp only [Bool.and_eq_true] at h1
  exact h1.1
theorem bookT_affs {xs : List Aff} {es : List (ByteArray × ByteArray)} (h : bookT xs es = true) : affsT xs = true := by
  simp only [bookT, Bool.and_eq_true] at h
  exact h.1
theorem bookT_len {xs : List Aff} {es : List (ByteArray × ByteArray)} (h : bookT xs es = true) : es.length ≤ 24 := by
  simp only [bookT, entsT, Bool.and_eq_true, decide_eq_true_eq] at h
  exact h.2.1
theorem formsT_asc (xs : List Aff) (st fl : ByteArray) : Asc (formsT xs st fl) := by
  unfold formsT
  split
  · exact formsL_asc xs st fl
  · exact List.Pairwise.nil
theorem formsT_nodup (xs : List Aff) (st fl : ByteArray) : (formsT xs st fl).Nodup :=
  List.Pairwise.imp (fun {a b} (h : tlt a b = true) e => by rw [e, tlt_irrefl] at h; cases h) (formsT_asc xs st fl)
theorem formsT_L {xs : List Aff} {es : List (ByteArray × ByteArray)} (h : bookT xs es = true) {i : Nat} {e : ByteArray × ByteArray} (he : es[i]? = some e) : formsT xs e.1 e.2 = formsL xs e.1 e.2 := by
  unfold formsT
  rw [bookT_affs h, bookT_ent h he]
  rfl
/-- Words with places, of the first entries. -/
def pairsTo (xs : List Aff) (es : List (ByteArray × ByteArray)) : Nat → List (ByteArray × Nat)
  | 0 => []
  | k + 1 => pairsTo xs es k ++ (match es[k]? with | some e => (formsT xs e.1 e.2).map (fun s => (s, k)) | none => [])
def pairsT (xs : List Aff) (es : List (ByteArray × ByteArray)) : List (ByteArray × Nat) := if bookT xs es then pairsTo xs es es.length else []
theorem pairsTo_len (xs : List Aff) (es : List (ByteArray × ByteArray)) : ∀ k, (pairsTo xs es k).length ≤ 100 * k
  | 0 => Nat.zero_le _
  | k + 1 => by
    have ih := pairsTo_len xs es k
    unfold pairsTo
    rw [List.length_append]
    split
    · next e _ =>
      have := (formsT_small xs e.1 e.2).1
      rw [List.length_map]
      omega
    · simp; omega
def hasW (l : List ByteArray) (s : ByteArray) : Bool := l.any (fun x => decide (x = s))
theorem hasW_iff (l : List ByteArray) (s : ByteArray) : hasW l s = true ↔ s ∈ l := by
  unfold hasW
  rw [List.any_eq_true]
  constructor
  · rintro ⟨x, hx, h⟩
    rw [of_decide_eq_true h] at hx
    exact hx
  · intro h
    exact ⟨s, h, decide_eq_true rfl⟩
/-- The places of the entries that make a word, of the first ones. -/
def atTo (xs : List Aff) (es : List (ByteArray × ByteArray)) (s : ByteArray) : Nat → List Nat
  | 0 => []
  | k + 1 => atTo xs es s k ++ (match es[k]? with | some e => if hasW (formsT xs e.1 e.2) s then [k] else [] | none => [])
theorem filter_pairs {l : List ByteArray} (h : l.Nodup) (s : ByteArray) (k : Nat) : ((l.map (fun x => (x, k))).filter (fun p => p.1 = s)).map (fun p => (p.2 : Int)) = if hasW l s then [(k : Int)] else [] := by
  induction l with
  | nil => simp [hasW]
  | cons x xs ih =>
    obtain ⟨h1, h2⟩ := List.nodup_cons.1 h
    have ih := ih h2
    by_cases e : x = s
    · subst e
      have h3 : ¬ hasW xs x = true := fun q => h1 ((hasW_iff xs x).1 q)
      rw [if_neg h3] at ih
      have h4 : hasW (x :: xs) x = true := (hasW_iff _ _).2 (by simp)
      rw [if_pos h4, List.map_cons, List.filter_cons_of_pos (by simp), List.map_cons, ih]
    · have h4 : hasW (x :: xs) s = hasW xs s := by simp [hasW, e]
      rw [h4, ← ih, List.map_cons, List.filter_cons_of_neg (by simpa using e)]
theorem placesOf_pairs (xs : List Aff) (es : List (ByteArray × ByteArray)) (s : ByteArray) : ∀ k, placesOf (pairsTo xs es k) s = (atTo xs es s k).map (fun (n : Nat) => (n : Int))
  | 0 => rfl
  | k + 1 => by
    have ih := placesOf_pairs xs es s k
    unfold placesOf at ih ⊢
    unfold pairsTo atTo
    rw [List.filter_append, List.map_append, ih, List.map_append]
    congr 1
    split
    · next e _ =>
      rw [filter_pairs (formsT_nodup xs e.1 e.2)]
      split <;> rfl
    · rfl
theorem atTo_lt (xs : List Aff) (es : List (ByteArray × ByteArray)) (s : ByteArray) : ∀ k, k ≤ es.length → ∀ n ∈ atTo xs es s k, n < es.length
  | 0, _, n, h => by cases h
  | k + 1, hk, n, h => by
    unfold atTo at h
    rw [List.mem_append] at h
    rcases h with h | h
    · exact atTo_lt xs es s k (by omega) n h
    · split at h
      · split at h
        · rw [List.mem_singleton] at h; omega
        · cases h
      · cases h
theorem atTo_len (xs : List Aff) (es : List (ByteArray × ByteArray)) (s : ByteArray) : ∀ k, (atTo xs es s k).length ≤ k
  | 0 => Nat.le_refl _
  | k + 1 => by
    have ih := atTo_len xs es s k
    unfold atTo
    rw [List.length_append]
    split
    · split <;> simp <;> omega
    · simp; omega
/-- The stems that make a word, of the first entries. -/
def stemsTo (xs : List Aff) (es : List (ByteArray × ByteArray)) (s : ByteArray) : Nat → List ByteArray
  | 0 => []
  | k + 1 => stemsTo xs es s k ++ (match es[k]? with | some e => if hasW (formsT xs e.1 e.2) s then [e.1] else [] | none => [])
def stemsT (xs : List Aff) (es : List (ByteArray × ByteArray)) (s : ByteArray) : List ByteArray := if bookT xs es then stemsTo xs es s es.length else []
def stemAt (es : List (ByteArray × ByteArray)) (n : Nat) : ByteArray := match es[n]? with | some e => e.1 | none => ByteArray.empty
theorem stemsTo_at (xs : List Aff) (es : List (ByteArray × ByteArray)) (s : ByteArray) : ∀ k, k ≤ es.length → stemsTo xs es s k = (atTo xs es s k).map (stemAt es)
  | 0, _ => rfl
  | k + 1, hk => by
    have ih := stemsTo_at xs es s k (by omega)
    unfold stemsTo atTo
    rw [List.map_append, ← ih]
    congr 1
    have he : es[k]? = some es[k] := List.getElem?_eq_getElem (by omega)
    rw [he]
    dsimp only
    split
    · simp [stemAt, he]
    · rfl
theorem stemsTo_len (xs : List Aff) (es : List (ByteArray × ByteArray)) (s : ByteArray) (k : Nat) (hk : k ≤ es.length) : (stemsTo xs es s k).length ≤ k := by
  rw [stemsTo_at xs es s k hk, List.length_map]
  exact atTo_len xs es s k
/-- A word is known, of the first entries. -/
def knowsTo (xs : List Aff) (es : List (ByteArray × ByteArray)) (s : ByteArray) : Nat → Bool
  | 0 => false
  | k + 1 => knowsTo xs es s k || (match es[k]? with | some e => hasW (formsT xs e.1 e.2) s | none => false)
def knowsT (xs : List Aff) (es : List (ByteArray × ByteArray)) (s : ByteArray) : Bool := bookT xs es && knowsTo xs es s es.length
theorem knowsTo_at (xs : List Aff) (es : List (ByteArray × ByteArray)) (s : ByteArray) : ∀ k, knowsTo xs es s k = decide (0 < (atTo xs es s k).length)
  | 0 => rfl
  | k + 1 => by
    have ih := knowsTo_at xs es s k
    unfold knowsTo atTo
    rw [ih, List.length_append]
    split
    · next e _ =>
      by_cases h : hasW (formsT xs e.1 e.2) s = true <;> simp [h]
    · simp
/-- All words, of the first entries, as they are put in order. -/
def wordsTo (xs : List Aff) (es : List (ByteArray × ByteArray)) : Nat → List ByteArray
  | 0 => []
  | k + 1 => (match es[k]? with | some e => formsT xs e.1 e.2 | none => []).foldl put (wordsTo xs es k)
def wordsT (xs : List Aff) (es : List (ByteArray × ByteArray)) : List ByteArray := if bookT xs es then wordsTo xs es es.length else []
theorem mem_puts : ∀ (l o : List ByteArray) (x : ByteArray), x ∈ l.foldl put o ↔ x ∈ o ∨ x ∈ l
  | [], o, x => by simp
  | y :: l, o, x => by
    rw [List.foldl_cons, mem_puts l, mem_put]
    simp only [List.mem_cons]
    constructor
    · rintro ((h | h) | h)
      · exact .inr (.inl h)
      · exact .inl h
      · exact .inr (.inr h)
    · rintro (h | h | h)
      · exact .inl (.inr h)
      · exact .inl (.inl h)
      · exact .inr h
theorem puts_len : ∀ (l o : List ByteArray), (l.foldl put o).length ≤ o.length + l.length
  | [], o => Nat.le_refl _
  | y :: l, o => by
    have h1 := puts_len l (put o y)
    have h2 := put_len o y
    rw [List.foldl_cons, List.length_cons]
    omega
theorem puts_asc : ∀ (l o : List ByteArray), Asc o → Asc (l.foldl put o)
  | [], o, h => h
  | y :: l, o, h => puts_asc l _ (asc_put o y h)
theorem mem_wordsTo (xs : List Aff) (es : List (ByteArray × ByteArray)) (s : ByteArray) : ∀ k, s ∈ wordsTo xs es k ↔ knowsTo xs es s k = true
  | 0 => by simp [wordsTo, knowsTo]
  | k + 1 => by
    have ih := mem_wordsTo xs es s k
    unfold wordsTo knowsTo
    rw [mem_puts, ih, Bool.or_eq_true]
    split
    · rw [hasW_iff]
    · simp
theorem wordsTo_len (xs : List Aff) (es : List (ByteArray × ByteArray)) : ∀ k, (wordsTo xs es k).length ≤ 100 * k
  | 0 => Nat.zero_le _
  | k + 1 => by
    have ih := wordsTo_len xs es k
    unfold wordsTo
    have h1 := puts_len (match es[k]? with | some e => formsT xs e.1 e.2 | none => []) (wordsTo xs es k)
    have h2 : (match es[k]? with | some e => formsT xs e.1 e.2 | none => []).length ≤ 100 := by
      split
      · exact (formsT_small xs _ _).1
      · simp
    omega
theorem wordsTo_asc (xs : List Aff) (es : List (ByteArray × ByteArray)) : ∀ k, Asc (wordsTo xs es k)
  | 0 => List.Pairwise.nil
  | k + 1 => puts_asc _ _ (wordsTo_asc xs es k)
theorem knowsTo_small {xs : List Aff} {es : List (ByteArray × ByteArray)} {s : ByteArray} : ∀ {k}, knowsTo xs es s k = true → s.size ≤ 12
  | 0, h => by cases h
  | k + 1, h => by
    unfold knowsTo at h
    rw [Bool.or_eq_true] at h
    rcases h with h | h
    · exact knowsTo_small h
    · split at h
      · exact (formsT_small xs _ _).2 s ((hasW_iff _ _).1 h)
      · cases h
theorem wordsT_small (xs : List Aff) (es : List (ByteArray × ByteArray)) : (wordsT xs es).length ≤ 2400 ∧ ∀ x ∈ wordsT xs es, x.size ≤ 12 := by
  unfold wordsT
  split
  · next h =>
    have h1 := bookT_len h
    have h2 := wordsTo_len xs es es.length
    exact ⟨by omega, fun x hx => knowsTo_small ((mem_wordsTo xs es x _).1 hx)⟩
  · exact ⟨by simp, fun x hx => by cases hx⟩
end Go.Proofs.Ytdhmefinbmkdaaa
/-
  spec.l2In, spec.l2Words, spec.BookKnows, spec.BookStems.
-/
namespace Go.Proofs.Ytdhmefinbmkdaaa
open Go.RowKit
set_option linter.unusedVariables false
theorem hasW_take {l : List ByteArray} {k : Nat} {x : ByteArray} (hx : l[k]? = some x) (s : ByteArray) : hasW (l.take (k + 1)) s = (hasW (l.take k) s || decide (x = s)) := by
  unfold hasW
  rw [List.take_add_one, hx]
  simp
theorem hasW_mem {l : List ByteArray} {k : Nat} {x : ByteArray} (hx : l[k]? = some x) : hasW l x = true := (hasW_iff l x).2 (List.mem_of_getElem? hx)
theorem toList_inj {a b : ByteArray} (h : a.toList = b.toList) : a = b := by
  rw [ByteArray.toList_eq, ByteArray.toList_eq] at h
  cases a; cases b
  simp only [ByteArray.mk.injEq]
  exact Array.toList_inj.1 h
theorem row_none (w : World) : TextRow (w.alloc (.cells #[] 9)) (.slice (some ⟨w.heap.size, 0, none⟩) 0 0) [] :=
  ⟨_, 0, rfl, Nat.le_refl _, fun i s hs => by simp at hs, _, heap_alloc_last _ _⟩
end Go.Proofs.Ytdhmefinbmkdaaa
