/-
  Plain mathematics: the words that an entry makes.
-/
import Derived.Test.YthedglgljehmgaaGreatDoorGW27
import Derived.Test.YthedglgljehmgaaGreatDoorM25
namespace Go.Proofs.YthedglgljehmgaaGreatDoor
set_option linter.unusedVariables false
/-- A flag is among some. -/
def flagIn (fl f : ByteArray) : Bool := (List.range fl.size).any fun i => (fl.extract i (i + 1)).toList == f.toList
/-- An affix of a side whose flag is among some. -/
def tkB (fl : ByteArray) (front : Bool) (a : Aff) : Bool := (a.front == front) && flagIn fl a.flag
/-- What an affix makes of a word, if it does. -/
def do1 (a : Aff) (x : ByteArray) : Option ByteArray := if (doT a x).2 then some (doT a x).1 else none
theorem do1_wok {a : Aff} {x y : ByteArray} (h : do1 a x = some y) : wok y = true := by
  unfold do1 doT at h
  by_cases h3 : (affOk a && (wok x && (hasT a.front x a.wh && wok (swT a.front x a.strip a.add)))) = true
  · rw [if_pos h3] at h
    simp only [if_true, Option.some.injEq] at h
    subst h
    simp only [Bool.and_eq_true] at h3
    exact h3.2.2.2
  · rw [if_neg h3] at h
    simp at h
def put1 (a : Aff) (o : List ByteArray) (x : ByteArray) : List ByteArray := match do1 a x with | none => o | some y => put o y
def stepA (ws : List ByteArray) (a : Aff) (o : List ByteArray) : List ByteArray := ws.foldl (put1 a) o
def oneF (fl : ByteArray) (front : Bool) (ws : List ByteArray) (o : List ByteArray) (a : Aff) : List ByteArray := if tkB fl front a then stepA ws a o else o
def oneT (xs : List Aff) (fl : ByteArray) (front : Bool) (ws : List ByteArray) : List ByteArray := xs.foldl (oneF fl front ws) ws
def formsL (xs : List Aff) (st fl : ByteArray) : List ByteArray := oneT xs fl true (oneT xs fl false [st])
theorem put1_mem (a : Aff) (o : List ByteArray) (x y : ByteArray) : y ∈ put1 a o x ↔ y ∈ o ∨ do1 a x = some y := by
  unfold put1
  split
  · next h => simp [h]
  · next z h =>
    rw [mem_put, h]
    constructor
    · rintro (rfl | h)
      · exact .inr rfl
      · exact .inl h
    · rintro (h | h)
      · exact .inr h
      · cases h; exact .inl rfl
theorem put1_asc (a : Aff) (o : List ByteArray) (x : ByteArray) (h : Asc o) : Asc (put1 a o x) := by
  unfold put1
  split
  · exact h
  · exact asc_put _ _ h
theorem put_len (l : List ByteArray) (s : ByteArray) : (put l s).length ≤ l.length + 1 := by
  induction l with
  | nil => simp [put]
  | cons x xs ih =>
    unfold put
    split
    · simp; omega
    · split <;> simp
theorem put1_len (a : Aff) (o : List ByteArray) (x : ByteArray) : (put1 a o x).length ≤ o.length + 1 := by
  unfold put1
  split
  · omega
  · exact put_len _ _
theorem stepA_mem (a : Aff) (y : ByteArray) : ∀ (ws o : List ByteArray), y ∈ stepA ws a o ↔ y ∈ o ∨ ∃ x ∈ ws, do1 a x = some y
  | [], o => by simp [stepA]
  | w :: ws, o => by
    have ih := stepA_mem a y ws (put1 a o w)
    show y ∈ stepA ws a (put1 a o w) ↔ _
    rw [ih, put1_mem]
    constructor
    · rintro ((h | h) | ⟨x, hx, h⟩)
      · exact .inl h
      · exact .inr ⟨w, List.mem_cons_self, h⟩
      · exact .inr ⟨x, List.mem_cons_of_mem _ hx, h⟩
    · rintro (h | ⟨x, hx, h⟩)
      · exact .inl (.inl h)
      · rcases List.mem_cons.1 hx with rfl | hx
        · exact .inl (.inr h)
        · exact .inr ⟨x, hx, h⟩
theorem stepA_asc (a : Aff) : ∀ (ws o : List ByteArray), Asc o → Asc (stepA ws a o)
  | [], o, h => h
  | w :: ws, o, h => stepA_asc a ws _ (put1_asc a o w h)
theorem stepA_len (a : Aff) : ∀ (ws o : List ByteArray), (stepA ws a o).length ≤ o.length + ws.length
  | [], o => by simp [stepA]
  | w :: ws, o => by
    have h1 := stepA_len a ws (put1 a o w)
    have h2 := put1_len a o w
    have h3 : stepA (w :: ws) a o = stepA ws a (put1 a o w) := rfl
    rw [h3]
    simp only [List.length_cons]
    omega
theorem stepA_take {ws : List ByteArray} {a : Aff} {o : List ByteArray} {k : Nat} {x : ByteArray} (hx : ws[k]? = some x) : stepA (ws.take (k + 1)) a o = put1 a (stepA (ws.take k) a o) x := by
  unfold stepA
  rw [List.take_add_one, hx, List.foldl_append]
  rfl
theorem ones_mem (fl : ByteArray) (front : Bool) (ws : List ByteArray) (y : ByteArray) : ∀ (xs : List Aff) (o : List ByteArray), y ∈ xs.foldl (oneF fl front ws) o ↔ y ∈ o ∨ ∃ a ∈ xs, tkB fl front a = true ∧ ∃ x ∈ ws, do1 a x = some y
  | [], o => by simp
  | a :: xs, o => by
    rw [List.foldl_cons, ones_mem fl front ws y xs]
    unfold oneF
    split
    · next ht =>
      rw [stepA_mem]
      constructor
      · rintro ((h | h) | ⟨b, hb, h⟩)
        · exact .inl h
        · exact .inr ⟨a, List.mem_cons_self, ht, h⟩
        · exact .inr ⟨b, List.mem_cons_of_mem _ hb, h⟩
      · rintro (h | ⟨b, hb, h⟩)
        · exact .inl (.inl h)
        · rcases List.mem_cons.1 hb with rfl | hb
          · exact .inl (.inr h.2)
          · exact .inr ⟨b, hb, h⟩
    · next ht =>
      constructor
      · rintro (h | ⟨b, hb, h⟩)
        · exact .inl h
        · exact .inr ⟨b, List.mem_cons_of_mem _ hb, h⟩
      · rintro (h | ⟨b, hb, h⟩)
        · exact .inl h
        · rcases List.mem_cons.1 hb with rfl | hb
          · exact absurd h.1 ht
          · exact .inr ⟨b, hb, h⟩
theorem ones_asc (fl : ByteArray) (front : Bool) (ws : List ByteArray) : ∀ (xs : List Aff) (o : List ByteArray), Asc o → Asc (xs.foldl (oneF fl front ws) o)
  | [], o, h => h
  | a :: xs, o, h => ones_asc fl front ws xs _ (by unfold oneF; split; exact stepA_asc _ _ _ h; exact h)
theorem ones_len (fl : ByteArray) (front : Bool) (ws : List ByteArray) : ∀ (xs : List Aff) (o : List ByteArray), (xs.foldl (oneF fl front ws) o).length ≤ o.length + xs.length * ws.length
  | [], o => by simp
  | a :: xs, o => by
    have h1 := ones_len fl front ws xs (oneF fl front ws o a)
    have h2 : (oneF fl front ws o a).length ≤ o.length + ws.length := by
      unfold oneF
      split
      · exact stepA_len _ _ _
      · omega
    rw [List.foldl_cons, List.length_cons, Nat.succ_mul]
    omega
theorem ones_take {xs : List Aff} {fl : ByteArray} {front : Bool} {ws o : List ByteArray} {k : Nat} {a : Aff} (ha : xs[k]? = some a) : (xs.take (k + 1)).foldl (oneF fl front ws) o = oneF fl front ws ((xs.take k).foldl (oneF fl front ws) o) a := by
  rw [List.take_add_one, ha, List.foldl_append]
  rfl
theorem oneT_mem (xs : List Aff) (fl : ByteArray) (front : Bool) (ws : List ByteArray) (y : ByteArray) : y ∈ oneT xs fl front ws ↔ y ∈ ws ∨ ∃ a ∈ xs, tkB fl front a = true ∧ ∃ x ∈ ws, do1 a x = some y := ones_mem fl front ws y xs ws
theorem oneT_wok (xs : List Aff) (fl : ByteArray) (front : Bool) (ws : List ByteArray) (h : ∀ x ∈ ws, wok x = true) : ∀ x ∈ oneT xs fl front ws, wok x = true := by
  intro y hy
  rcases (oneT_mem xs fl front ws y).1 hy with h1 | ⟨a, _, _, x, _, h1⟩
  · exact h y h1
  · exact do1_wok h1
theorem formsL_asc (xs : List Aff) (st fl : ByteArray) : Asc (formsL xs st fl) := ones_asc _ _ _ _ _ (ones_asc _ _ _ _ _ (List.pairwise_singleton _ _))
/-- What is made one behind the other. -/
def made1 (xs : List Aff) (st fl : ByteArray) : List ByteArray := st :: (xs.filter (tkB fl false)).filterMap (do1 · st)
def made2 (xs : List Aff) (st fl : ByteArray) : List ByteArray := made1 xs st fl ++ (xs.filter (tkB fl true)).flatMap fun a => (made1 xs st fl).filterMap (do1 a)
theorem made1_mem (xs : List Aff) (st fl y : ByteArray) : y ∈ made1 xs st fl ↔ y ∈ oneT xs fl false [st] := by
  rw [oneT_mem]
  unfold made1
  simp only [List.mem_cons, List.mem_filterMap, List.mem_filter, List.not_mem_nil, or_false]
  constructor
  · rintro (h | ⟨a, ⟨h1, h2⟩, h3⟩)
    · exact .inl h
    · exact .inr ⟨a, h1, h2, st, rfl, h3⟩
  · rintro (h | ⟨a, h1, h2, x, rfl, h3⟩)
    · exact .inl h
    · exact .inr ⟨a, ⟨h1, h2⟩, h3⟩
theorem made2_mem (xs : List Aff) (st fl y : ByteArray) : y ∈ formsL xs st fl ↔ y ∈ made2 xs st fl := by
  unfold formsL
  rw [oneT_mem]
  unfold made2
  simp only [List.mem_append, List.mem_flatMap, List.mem_filterMap, List.mem_filter, made1_mem]
  constructor
  · rintro (h | ⟨a, h1, h2, x, h3, h4⟩)
    · exact .inl h
    · exact .inr ⟨a, ⟨h1, h2⟩, x, h3, h4⟩
  · rintro (h | ⟨a, ⟨h1, h2⟩, x, h3, h4⟩)
    · exact .inl h
    · exact .inr ⟨a, h1, h2, x, h3, h4⟩
theorem once_forms (xs : List Aff) (st fl : ByteArray) : onceT ((made2 xs st fl).map fun y => y.data.toList) = formsL xs st fl :=
  once_eq (made2 xs st fl) (formsL xs st fl) (formsL_asc xs st fl) fun x => made2_mem xs st fl x
end Go.Proofs.YthedglgljehmgaaGreatDoor
