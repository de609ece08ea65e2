/-
  Clients in one form.
-/
import Derived.Test.YtmjhgniilhbgeaaGreatDoorW144
namespace Go.Proofs.YtmjhgniilhbgeaaGreatDoor
open Go.RowKit
set_option linter.unusedVariables false
/-- Clients: a key, up, a number, a book, a file. -/
abbrev ClientM := ByteArray × Bool × Int × (List Aff × List (ByteArray × ByteArray)) × ByteArray
def ClientAt (w : World) (v : Value) (x : ClientM) : Prop := ∃ va ve, v = .agg #[.string x.1, .bool x.2.1, .int .i64 x.2.2.1, va, ve, .string x.2.2.2.2] ∧ AffsAt w va x.2.2.2.1.1 ∧ EntsAt w ve x.2.2.2.1.2
def ClientOwn (lo hi : Nat) (w : World) (v : Value) (x : ClientM) : Prop := ∃ va ve, v = .agg #[.string x.1, .bool x.2.1, .int .i64 x.2.2.1, va, ve, .string x.2.2.2.2] ∧ AffsOwn lo hi w va x.2.2.2.1.1 ∧ EntsOwn lo hi w ve x.2.2.2.1.2
def ClientSm (x : ClientM) : Prop := BookSm x.2.2.2.1
def clientCnt (x : ClientM) : Nat := bookCnt x.2.2.2.1
def clientMk (k : Nat) (x : ClientM) : ClientM := (x.1, x.2.1, x.2.2.1, bookMk k x.2.2.2.1, x.2.2.2.2)
theorem ClientAt.form2 {w : World} {v : Value} {x : ClientM} (h : ClientAt w v x) : ∃ s b n a l c a' l' c' s', v = .agg #[.string s, .bool b, .int .i64 n, .slice a l c, .slice a' l' c', .string s'] := by
  obtain ⟨va, ve, rfl, h1, h2⟩ := h
  obtain ⟨a, c, rfl, _⟩ := h1.form
  obtain ⟨a', c', rfl, _⟩ := h2.form
  exact ⟨_, _, _, _, _, _, _, _, _, _, rfl⟩
theorem ClientAt.below {w w' : World} {v : Value} {x : ClientM} (h : ClientAt w v x) (hb : Below w.heap.size w w') : ClientAt w' v x := by
  obtain ⟨va, ve, hv, h1, h2⟩ := h
  exact ⟨va, ve, hv, h1.below hb, h2.below hb⟩
theorem ClientOwn.at {lo hi : Nat} {w : World} {v : Value} {x : ClientM} (h : ClientOwn lo hi w v x) : ClientAt w v x := by
  obtain ⟨va, ve, hv, h1, h2⟩ := h
  exact ⟨va, ve, hv, h1.at, h2.at⟩
theorem ClientOwn.below {lo hi : Nat} {w w' : World} {v : Value} {x : ClientM} (h : ClientOwn lo hi w v x) (hb : Below w.heap.size w w') : ClientOwn lo hi w' v x := by
  obtain ⟨va, ve, hv, h1, h2⟩ := h
  exact ⟨va, ve, hv, h1.below hb, h2.below hb⟩
theorem ClientOwn.wr {lo hi l h' : Nat} {w w' : World} {v : Value} {x : ClientM} (h : ClientOwn lo hi w v x) (hw : Wr l h' w w') (hl : h' ≤ lo) : ClientOwn lo hi w' v x := by
  obtain ⟨va, ve, hv, h1, h2⟩ := h
  exact ⟨va, ve, hv, h1.wr hw hl, h2.wr hw hl⟩
/-- A key. -/
def keyT (s : ByteArray) : Bool := if h : 1 ≤ s.size then decide (s.size ≤ 64) && ((s[s.size - 1].toNat : Int) != 0) else false
theorem keyT_none {s : ByteArray} (h : ¬ 1 ≤ s.size) : keyT s = false := dif_neg h
theorem keyT_long {s : ByteArray} (h : 64 < s.size) : keyT s = false := by
  have h1 : 1 ≤ s.size := by omega
  have h2 : ¬ s.size ≤ 64 := by omega
  simp [keyT, h1, h2]
theorem keyT_in {s : ByteArray} (h : 1 ≤ s.size) (h2 : s.size ≤ 64) (hh : s.size - 1 < s.size) : keyT s = ((s[s.size - 1].toNat : Int) != 0) := by
  simp [keyT, h, h2]
theorem listNil {s : ByteArray} (h : ¬ 1 ≤ s.size) : s.toList = [] := by
  rw [ByteArray.toList_eq]
  have : s.data.toList.length = s.size := rfl
  exact List.length_eq_zero_iff.1 (by omega)
theorem listSome {s : ByteArray} (h : 1 ≤ s.size) : ¬ s.toList = [] := by
  rw [ByteArray.toList_eq]
  intro e
  have h1 : s.data.toList.length = s.size := rfl
  rw [e] at h1
  simp at h1
  omega
def newT (s : ByteArray) : ClientM := if keyT s then (s, true, 0, ([], []), ByteArray.empty) else (ByteArray.empty, false, 0, ([], []), ByteArray.empty)
theorem newT_small (s : ByteArray) : ClientSm (newT s) := by
  unfold newT ClientSm BookSm
  split <;> simp
theorem nilBook (w : World) : AffsAt w (.slice none 0 0) [] ∧ EntsAt w (.slice none 0 0) [] := by
  refine ⟨?_, ?_⟩
  · exact ⟨none, 0, rfl, Nat.le_refl _, Nat.zero_le _, fun i x hx => by simp at hx, fun hn => absurd rfl hn⟩
  · exact ⟨none, 0, rfl, Nat.le_refl _, Nat.zero_le _, fun i x hx => by simp at hx, fun hn => absurd rfl hn⟩
theorem nilOwn (lo hi : Nat) (w : World) : AffsOwn lo hi w (.slice none 0 0) [] ∧ EntsOwn lo hi w (.slice none 0 0) [] := by
  refine ⟨⟨⟨none, 0, rfl, Nat.le_refl _, Nat.zero_le _, fun hn => absurd rfl hn⟩, fun i x hx => by simp at hx⟩, ⟨⟨none, 0, rfl, Nat.le_refl _, Nat.zero_le _, fun hn => absurd rfl hn⟩, fun i x hx => by simp at hx⟩⟩
theorem newClient {lo hi : Nat} (w : World) (s : ByteArray) (b : Bool) (h : keyT s = b) : ClientOwn lo hi w (bif b then .agg #[.string s, .bool true, .int .i64 0, .slice none 0 0, .slice none 0 0, .string ⟨#[]⟩] else .agg #[.string ⟨#[]⟩, .bool false, .int .i64 0, .slice none 0 0, .slice none 0 0, .string ⟨#[]⟩]) (newT s) := by
  unfold newT
  cases b <;> simp only [h, if_true, if_false, cond_true, cond_false, Bool.false_eq_true] <;> exact ⟨_, _, rfl, (nilOwn lo hi w).1, (nilOwn lo hi w).2⟩
end Go.Proofs.YtmjhgniilhbgeaaGreatDoor
