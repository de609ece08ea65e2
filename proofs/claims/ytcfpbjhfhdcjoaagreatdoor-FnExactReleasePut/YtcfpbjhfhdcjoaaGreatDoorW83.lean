/-
  impl.BookPut.
-/
import Derived.Test.YtcfpbjhfhdcjoaaGreatDoorW82
import Derived.Test.YtcfpbjhfhdcjoaaGreatDoorW76
import Derived.Test.YtcfpbjhfhdcjoaaGreatDoorM8
namespace Go.Proofs.YtcfpbjhfhdcjoaaGreatDoor
open Go.RowKit
set_option linter.unusedVariables false
theorem builder_below8 {T e : TypeId} {B b : Nat} {bs : List Value} {w w' : World} (h : Lib.IsBuilder T e B b bs w) (hb : Below w.heap.size w w') : Lib.IsBuilder T e B b bs w' := by
  have key : ∀ p, Lib.BuilderAt T e B b p bs w → Lib.BuilderAt T e B b p bs w' := by
    rintro p ⟨hB, v, hbk, hown, hne⟩
    have hlt : b < w.heap.size := (Array.getElem?_eq_some_iff.1 hbk).1
    refine ⟨hB, v, (hb.block b hlt).trans hbk, ⟨hown.1, ?_⟩, hne⟩
    rcases hown.2 with h2 | ⟨g, cap, cur, hv, hg, hh, r⟩
    · exact .inl h2
    · have hg2 : g < w.heap.size := (Array.getElem?_eq_some_iff.1 hh).1
      exact .inr ⟨g, cap, cur, hv, hg, (hb.block g hg2).trans hh, r⟩
  exact h.imp (key _) (key _)
/-- The lines of affixes, and of entries. -/
def putA (xs : List Aff) : List UInt8 := xs.flatMap lineA
def putE (es : List (ByteArray × ByteArray)) : List UInt8 := es.flatMap fun e => lineE e.1 e.2
theorem putA_take {xs : List Aff} {k : Nat} {x : Aff} (hx : xs[k]? = some x) : putA (xs.take (k + 1)) = putA (xs.take k) ++ lineA x := by
  unfold putA
  rw [List.take_add_one, hx]
  simp
theorem putE_take {es : List (ByteArray × ByteArray)} {k : Nat} {x : ByteArray × ByteArray} (hx : es[k]? = some x) : putE (es.take (k + 1)) = putE (es.take k) ++ lineE x.1 x.2 := by
  unfold putE
  rw [List.take_add_one, hx]
  simp
/-- Affixes and entries whose texts are short. -/
def ShortA (x : Aff) : Prop := x.flag.size ≤ 1000 ∧ x.strip.size ≤ 1000 ∧ x.add.size ≤ 1000 ∧ x.wh.size ≤ 1000
theorem lineA_length {x : Aff} (h : ShortA x) : (lineA x).length ≤ 5006 := by
  have : ∀ k, k < 5 → (affP x k).size ≤ 1000 := by
    intro k hk
    match k with
    | 0 =>
      show (if x.front then (⟨#[102, 114, 111, 110, 116]⟩ : ByteArray) else ⟨#[101, 110, 100]⟩).size ≤ 1000
      split <;> decide
    | 1 => exact h.1
    | 2 => exact h.2.1
    | 3 => exact h.2.2.1
    | 4 => exact h.2.2.2
  have := accJ_length this 4 (by omega)
  simp only [lineA, List.length_append, List.length_cons, List.length_nil]
  omega
theorem lineE_length {s f : ByteArray} (h1 : s.size ≤ 1000) (h2 : f.size ≤ 1000) : (lineE s f).length ≤ 2002 := by
  unfold lineE
  split
  · simp only [List.length_append, List.length_cons, List.length_nil, bl_length]; omega
  · simp only [List.length_append, List.length_cons, List.length_nil, bl_length]; omega
theorem book_parts {xs : List Aff} {es : List (ByteArray × ByteArray)} (h : bookT xs es = true) : xs.length ≤ 8 ∧ es.length ≤ 24 ∧ (∀ (i : Nat) (x : Aff), xs[i]? = some x → ShortA x) ∧ ∀ (i : Nat) (x : ByteArray × ByteArray), es[i]? = some x → x.1.size ≤ 1000 ∧ x.2.size ≤ 1000 := by
  unfold bookT affsT entsT at h
  simp only [Bool.and_eq_true, decide_eq_true_eq, List.all_eq_true, List.mem_range] at h
  obtain ⟨⟨h1, h2⟩, h3, h4⟩ := h
  refine ⟨h1, h3, fun i x hx => ?_, fun i x hx => ?_⟩
  · have := h2 i (List.getElem?_eq_some_iff.1 hx).1
    rw [affAt_at hx] at this
    simp only [Bool.and_eq_true] at this
    obtain ⟨p1, p2, p3, _⟩ := affOk_parts this.1
    have hfl : x.flag.size ≤ 1 := by
      have := this.1
      unfold affOk flagT at this
      simp only [Bool.and_eq_true, decide_eq_true_eq] at this
      omega
    exact ⟨by omega, by omega, by omega, by omega⟩
  · have := h4 i (List.getElem?_eq_some_iff.1 hx).1
    have hen : entT x.1 x.2 = true := by
      cases hh : entT x.1 x.2 with
      | true => rfl
      | false => rw [entAt_no hx hh] at this; cases this
    unfold entT at hen
    simp only [Bool.and_eq_true] at hen
    have h5 := wok_sz hen.1
    have h6 : x.2.size ≤ 4 := by
      have := hen.2
      unfold flagsT at this
      simp only [Bool.and_eq_true, decide_eq_true_eq] at this
      omega
    exact ⟨by omega, by omega⟩
theorem putA_length {xs : List Aff} (h : ∀ (i : Nat) (x : Aff), xs[i]? = some x → ShortA x) : ∀ k, k ≤ xs.length → (putA (xs.take k)).length ≤ 5006 * k
  | 0, _ => by simp [putA]
  | k + 1, hk => by
    have hx : xs[k]? = some xs[k] := List.getElem?_eq_getElem (by omega)
    have h1 := putA_length h k (by omega)
    have h2 := lineA_length (h k _ hx)
    rw [putA_take hx, List.length_append]
    omega
theorem putE_length {es : List (ByteArray × ByteArray)} (h : ∀ (i : Nat) (x : ByteArray × ByteArray), es[i]? = some x → x.1.size ≤ 1000 ∧ x.2.size ≤ 1000) : ∀ k, k ≤ es.length → (putE (es.take k)).length ≤ 2002 * k
  | 0, _ => by simp [putE]
  | k + 1, hk => by
    have hx : es[k]? = some es[k] := List.getElem?_eq_getElem (by omega)
    have h1 := putE_length h k (by omega)
    have h2 := lineE_length (h k _ hx).1 (h k _ hx).2
    rw [putE_take hx, List.length_append]
    omega
/-- A book's text. -/
def bputT (xs : List Aff) (es : List (ByteArray × ByteArray)) : ByteArray := if bookT xs es then mkT (putA xs ++ putE es) else ⟨#[]⟩
end Go.Proofs.YtcfpbjhfhdcjoaaGreatDoor
