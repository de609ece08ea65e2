/-
  Plain mathematics: texts in order, each once.
-/
import Derived.WalkKit
namespace Go.Proofs.YthedglgljehmgaaGreatDoor
set_option linter.unusedVariables false
/-- One text comes ahead of another one. -/
def tlt (a b : ByteArray) : Bool := Op.bytesLess a.toList b.toList
theorem bytesLess_lt : ∀ (x y : List UInt8), Op.bytesLess x y = decide (x < y)
  | [], [] => by simp [Op.bytesLess]
  | _ :: _, [] => by simp [Op.bytesLess]
  | [], _ :: _ => by simp [Op.bytesLess]
  | a :: x, b :: y => by
    have ih := bytesLess_lt x y
    rw [Op.bytesLess, ih, Bool.eq_iff_iff]
    simp [List.cons_lt_cons_iff]
theorem tlt_eq (a b : ByteArray) : tlt a b = decide (a.data.toList < b.data.toList) := by
  unfold tlt
  rw [bytesLess_lt, ByteArray.toList_eq, ByteArray.toList_eq]
theorem data_inj {a b : ByteArray} (h : a.data.toList = b.data.toList) : a = b := by
  cases a; cases b
  simp only at h
  congr
  exact Array.toList_inj.1 h
theorem toList_inj' {a b : ByteArray} (h : a.toList = b.toList) : a = b := by
  rw [ByteArray.toList_eq, ByteArray.toList_eq] at h
  exact data_inj h
theorem tlt_irrefl (a : ByteArray) : tlt a a = false := by
  rw [tlt_eq]
  exact decide_eq_false (List.lt_irrefl _)
theorem tlt_trans {a b c : ByteArray} (h1 : tlt a b = true) (h2 : tlt b c = true) : tlt a c = true := by
  rw [tlt_eq] at *
  simp only [decide_eq_true_eq] at *
  exact List.lt_trans h1 h2
theorem tlt_total {a b : ByteArray} (h1 : tlt a b = false) (h2 : a ≠ b) : tlt b a = true := by
  rw [tlt_eq] at *
  simp only [decide_eq_true_eq, decide_eq_false_iff_not] at *
  rcases Nat.lt_or_ge 0 1 with _ | h
  · have h3 : b.data.toList ≤ a.data.toList := List.not_lt.1 h1
    rcases (List.le_iff_lt_or_eq.1 h3) with h | h
    · exact h
    · exact absurd (data_inj h.symm) h2
  · omega
theorem tlt_asymm {a b : ByteArray} (h : tlt a b = true) : tlt b a = false := by
  cases h2 : tlt b a with
  | false => rfl
  | true => have := tlt_trans h h2; rw [tlt_irrefl] at this; cases this
/-- In order, each once. -/
def Asc (l : List ByteArray) : Prop := l.Pairwise (fun a b => tlt a b = true)
/-- A text among others, in order, once. -/
def put : List ByteArray → ByteArray → List ByteArray
  | [], s => [s]
  | x :: xs, s => if tlt x s then x :: put xs s else if x = s then x :: xs else s :: x :: xs
theorem mem_put (l : List ByteArray) (s x : ByteArray) : x ∈ put l s ↔ x = s ∨ x ∈ l := by
  induction l with
  | nil => simp [put]
  | cons y ys ih =>
    unfold put
    split
    · simp only [List.mem_cons, ih]
      constructor
      · rintro (h | h | h)
        · exact .inr (.inl h)
        · exact .inl h
        · exact .inr (.inr h)
      · rintro (h | h | h)
        · exact .inr (.inl h)
        · exact .inl h
        · exact .inr (.inr h)
    · split
      · next h => subst h; simp
      · simp
theorem asc_put (l : List ByteArray) (s : ByteArray) (h : Asc l) : Asc (put l s) := by
  induction l with
  | nil => simp [put, Asc]
  | cons y ys ih =>
    unfold Asc at h
    rw [List.pairwise_cons] at h
    unfold put
    split
    · next hy =>
      unfold Asc
      rw [List.pairwise_cons]
      refine ⟨fun b hb => ?_, ih h.2⟩
      rcases (mem_put ys s b).1 hb with rfl | hb
      · exact hy
      · exact h.1 b hb
    · next hy =>
      split
      · unfold Asc; rw [List.pairwise_cons]; exact h
      · next hne =>
        have hsy : tlt s y = true := tlt_total (by simpa using hy) hne
        unfold Asc
        rw [List.pairwise_cons]
        refine ⟨fun b hb => ?_, by rw [List.pairwise_cons]; exact h⟩
        rcases List.mem_cons.1 hb with rfl | hb
        · exact hsy
        · exact tlt_trans hsy (h.1 b hb)
/-- Two lists in order of the same texts are the same. -/
theorem asc_unique : ∀ (l m : List ByteArray), Asc l → Asc m → (∀ x, x ∈ l ↔ x ∈ m) → l = m
  | [], [], _, _, _ => rfl
  | [], y :: ys, _, _, h => by have := (h y).2 (by simp); simp at this
  | x :: xs, [], _, _, h => by have := (h x).1 (by simp); simp at this
  | x :: xs, y :: ys, hl, hm, h => by
    unfold Asc at hl hm
    rw [List.pairwise_cons] at hl hm
    have hxy : x = y := by
      rcases List.mem_cons.1 ((h x).1 (by simp)) with e | hx
      · exact e
      · rcases List.mem_cons.1 ((h y).2 (by simp)) with e | hy
        · exact e.symm
        · have h1 := hm.1 x hx
          have h2 := hl.1 y hy
          have := tlt_trans h1 h2
          rw [tlt_irrefl] at this; cases this
    subst hxy
    have : xs = ys := by
      apply asc_unique xs ys hl.2 hm.2
      intro z
      constructor
      · intro hz
        rcases List.mem_cons.1 ((h z).1 (List.mem_cons_of_mem _ hz)) with e | hz'
        · subst e; have := hl.1 z hz; rw [tlt_irrefl] at this; cases this
        · exact hz'
      · intro hz
        rcases List.mem_cons.1 ((h z).2 (List.mem_cons_of_mem _ hz)) with e | hz'
        · subst e; have := hm.1 z hz; rw [tlt_irrefl] at this; cases this
        · exact hz'
    rw [this]
/-- Where a text stands, or would: behind all that come ahead of it. -/
theorem put_at (l : List ByteArray) (s : ByteArray) (k : Nat) (hk : k ≤ l.length) (h : ∀ j x, j < k → l[j]? = some x → tlt x s = true) (hend : k = l.length ∨ ∃ x, l[k]? = some x ∧ tlt x s = false) :
    put l s = if l[k]? = some s then l else l.take k ++ s :: l.drop k := by
  induction l generalizing k with
  | nil =>
    have : k = 0 := by simpa using hk
    subst this
    simp [put]
  | cons y ys ih =>
    cases k with
    | zero =>
      rcases hend with h0 | ⟨x, hx, hxs⟩
      · simp at h0
      · simp only [List.getElem?_cons_zero, Option.some.injEq] at hx
        subst hx
        unfold put
        rw [if_neg (by simp [hxs])]
        by_cases e : y = s
        · simp [e]
        · simp [e]
    | succ k =>
      have hy := h 0 y (by omega) (by simp)
      unfold put
      rw [if_pos hy, ih k (by simpa using hk) (fun j x hj hx => h (j + 1) x (by omega) (by simpa using hx)) (by
        rcases hend with h0 | ⟨x, hx, hxs⟩
        · exact .inl (by simpa using h0)
        · exact .inr ⟨x, by simpa using hx, hxs⟩)]
      simp only [List.getElem?_cons_succ]
      split
      · rfl
      · simp
end Go.Proofs.YthedglgljehmgaaGreatDoor
