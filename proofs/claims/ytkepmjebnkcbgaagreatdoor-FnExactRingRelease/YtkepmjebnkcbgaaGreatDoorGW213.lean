/-
  Rows that the call makes by append: texts, affixes, entries.
-/
import Derived.Test.YtkepmjebnkcbgaaGreatDoorW13
import Derived.Test.YtkepmjebnkcbgaaGreatDoorW70
import Derived.Test.YtkepmjebnkcbgaaGreatDoorGW78
import Derived.Test.YtkepmjebnkcbgaaGreatDoorW119
import Derived.Test.YtkepmjebnkcbgaaGreatDoorGW92
import Derived.Test.YtkepmjebnkcbgaaGreatDoorGM30
namespace Go.Proofs.YtkepmjebnkcbgaaGreatDoor
open Go.RowKit
set_option linter.unusedVariables false
/-- Affixes as cells. -/
def affCells (ys : List Aff) : List Value := ys.flatMap fun a => a.cells.toList
theorem affCells_length (ys : List Aff) : (affCells ys).length = ys.length * 5 := by
  induction ys with
  | nil => rfl
  | cons y ys ih =>
    have : affCells (y :: ys) = y.cells.toList ++ affCells ys := rfl
    rw [this, List.length_append, ih, List.length_cons]
    simp [Aff.cells]
    omega
theorem affCells_at : ∀ (ys : List Aff) (i j : Nat) (y : Aff), ys[i]? = some y → j < 5 → (affCells ys)[i * 5 + j]? = y.cells[j]?
  | [], i, j, y, h, _ => by simp at h
  | x :: xs, 0, j, y, h, hj => by
    have : affCells (x :: xs) = x.cells.toList ++ affCells xs := rfl
    simp only [List.getElem?_cons_zero, Option.some.injEq] at h
    subst h
    rw [this, List.getElem?_append_left (by simp [Aff.cells]; omega)]
    simp
  | x :: xs, i + 1, j, y, h, hj => by
    have : affCells (x :: xs) = x.cells.toList ++ affCells xs := rfl
    have hl : x.cells.toList.length = 5 := by simp [Aff.cells]
    rw [this, List.getElem?_append_right (by omega), hl, show (i + 1) * 5 + j - 5 = i * 5 + j by omega]
    exact affCells_at xs i j y (by simpa using h) hj
/-- Two rows of other types are two blocks. -/
theorem rows_apart {w : World} {lo lo' : Nat} {e e' : TypeId} {s s' n n' : Nat} {v v' : Value} {xs xs' : List Value} (h : w.ownsRow lo e s v n xs) (h' : w.ownsRow lo' e' s' v' n' xs') (hne : e ≠ e') : v.ownBlock = none ∨ v.ownBlock ≠ v'.ownBlock := by
  rcases h.2 with ⟨rfl, _⟩ | ⟨g, cap, cur, rfl, _, hb, _⟩
  · exact .inl rfl
  · right
    rcases h'.2 with ⟨rfl, _⟩ | ⟨g', cap', cur', rfl, _, hb', _⟩
    · simp [Value.ownBlock]
    · intro e1
      have : g = g' := by simpa [Value.ownBlock] using e1
      subst this
      rw [hb] at hb'
      cases hb'
      exact hne rfl
theorem own_block_ge {w : World} {lo : Nat} {e : TypeId} {s n : Nat} {v : Value} {xs : List Value} (h : w.ownsRow lo e s v n xs) : ∀ k, v.ownBlock = some k → lo ≤ k := by
  intro k hk
  exact (World.ownsRow.lt h k hk).1
theorem owns_form {w : World} {lo : Nat} {e : TypeId} {s n : Nat} {v : Value} {xs : List Value} (h : w.ownsRow lo e s v n xs) : ∃ a cap, v = .slice a n cap := by
  rcases h.2 with ⟨rfl, rfl⟩ | ⟨g, cap, cur, rfl, _⟩
  · exact ⟨none, 0, rfl⟩
  · exact ⟨_, cap, rfl⟩
theorem owns_below {lo : Nat} {w w' : World} {e : TypeId} {size k : Nat} {v : Value} {xs : List Value} (h : w.ownsRow lo e size v k xs) (hb : Below w.heap.size w w') : w'.ownsRow lo e size v k xs := by
  refine ⟨h.1, ?_⟩
  rcases h.2 with h | ⟨g, cap, cur, hv, h1, h2, r⟩
  · exact .inl h
  · exact .inr ⟨g, cap, cur, hv, h1, (hb.block g (Array.getElem?_eq_some_iff.1 h2).1).trans h2, r⟩
theorem news_cells {W : World} {B : Nat} {cs : Array Value} {t : TypeId} (h : W.heap[B]? = some (.cells cs t (0, 0))) : ∀ j u, cs.toList[j]? = some u → W.cell? ((⟨B, 0, none⟩ : Addr).add j) = some u := by
  intro j u hu
  rw [add_zero_at, Nat.zero_add, cell_of_row W B j _ _ _ h]
  simpa using hu
theorem owns_lower {W : World} {n₁ lo : Nat} {e : TypeId} {size k : Nat} {v : Value} {xs : List Value} (h : W.ownsRow n₁ e size v k xs) (hle : lo ≤ n₁) : W.ownsRow lo e size v k xs := by
  refine ⟨h.1, ?_⟩
  rcases h.2 with h | ⟨g, cap, cur, hv, hb, r⟩
  · exact .inl h
  · exact .inr ⟨g, cap, cur, hv, Nat.le_trans hle hb, r⟩
/-- Entries as cells. -/
def entCells (ys : List (ByteArray × ByteArray)) : List Value := ys.flatMap fun a => [.string a.1, .string a.2]
theorem entCells_append (a b : List (ByteArray × ByteArray)) : entCells (a ++ b) = entCells a ++ entCells b := by simp [entCells]
theorem entCells_at : ∀ (ys : List (ByteArray × ByteArray)) (i : Nat) (y : ByteArray × ByteArray), ys[i]? = some y → (entCells ys)[i * 2]? = some (.string y.1) ∧ (entCells ys)[i * 2 + 1]? = some (.string y.2)
  | [], i, y, h => by simp at h
  | x :: xs, 0, y, h => by
    simp only [List.getElem?_cons_zero, Option.some.injEq] at h
    subst h
    exact ⟨rfl, rfl⟩
  | x :: xs, i + 1, y, h => by
    have : entCells (x :: xs) = .string x.1 :: .string x.2 :: entCells xs := rfl
    rw [this, show (i + 1) * 2 = i * 2 + 1 + 1 by omega]
    simp only [List.getElem?_cons_succ]
    exact entCells_at xs i y (by simpa using h)
/-- What is owned, as a row of one's own. -/
theorem rowOwn_of_owns {w : World} {lo : Nat} {e : TypeId} {size : Nat} {v : Value} {n : Nat} {xs : List Value} {C : (Nat → Value) → Prop} (h : w.ownsRow lo e size v n xs) (hC : ∀ f : Nat → Value, (∀ i u, xs[i]? = some u → f i = u) → C f) : RowOwn e size lo w.heap.size w v n C := by
  rcases h.2 with ⟨rfl, rfl⟩ | ⟨g, cap, cur, rfl, hbase, hb, h1, h2, h3, h4⟩
  · exact ⟨none, 0, rfl, Nat.le_refl _, Nat.zero_le _, fun hn => absurd rfl hn⟩
  · have hg : g < w.heap.size := (Array.getElem?_eq_some_iff.1 hb).1
    refine ⟨some ⟨g, 0, none⟩, cap, rfl, h1, h2, fun _ => ⟨g, cur.size, fun i => cur[i]?.getD (.bool false), rfl, hbase, hg, by rw [h3]; exact Nat.mul_le_mul_right _ h1, ⟨cur, hb, rfl, fun i hi => by simp [hi]⟩, hC _ fun i u hu => ?_⟩⟩
    have hi : i < n * size := by have := (List.getElem?_eq_some_iff.1 hu).1; rw [h.1] at this; exact this
    have e1 : (cur.toList.take (n * size))[i]? = some u := by rw [h4]; exact hu
    rw [List.getElem?_take_of_lt hi, Array.getElem?_toList] at e1
    show cur[i]?.getD (.bool false) = u
    rw [e1]
    rfl
theorem owns_alone {W : World} {B base : Nat} {e : TypeId} {size : Nat} (h : W.heap[B]? = some (.cells #[] e (0, 0))) (hb : base ≤ B) : W.ownsRow base e size (.slice (some ⟨B, 0, none⟩) 0 0) 0 [] :=
  ⟨by simp, .inr ⟨B, 0, #[], rfl, hb, h, Nat.le_refl _, Nat.zero_le _, by simp, by simp⟩⟩
theorem owns_set {w : World} {lo : Nat} {e : TypeId} {s n : Nat} {v : Value} {xs : List Value} (h : w.ownsRow lo e s v n xs) (b o : Nat) (u : Value) (hb : b < lo) : (w.setCell ⟨b, o, none⟩ u).ownsRow lo e s v n xs :=
  h.kept (grown_set w b o u) (by
    rcases h.2 with ⟨rfl, _⟩ | ⟨g, cap, cur, rfl, hg, _⟩
    · exact .inl rfl
    · right
      simp only [Value.ownBlock]
      intro e1
      have : g = b := by simpa using e1
      omega)
theorem owns_ne {w : World} {lo B : Nat} {e : TypeId} {s n : Nat} {v : Value} {xs : List Value} (h : w.ownsRow lo e s v n xs) (hB : B < lo) : some B ≠ v.ownBlock := by
  rcases h.2 with ⟨rfl, _⟩ | ⟨g, cap, cur, rfl, hg, _⟩
  · simp [Value.ownBlock]
  · intro e1
    have : B = g := by simpa [Value.ownBlock] using e1
    omega
end Go.Proofs.YtkepmjebnkcbgaaGreatDoor
/-
  Rows of words; bytes in memory as words' numbers.
-/
namespace Go.Proofs.YtkepmjebnkcbgaaGreatDoor
open Go.RowKit
set_option linter.unusedVariables false
def wordCells (l : List Wd) : List Value := l.map fun a => .int .u32 (wn a)
theorem wordCells_len (l : List Wd) : (wordCells l).length = l.length := by simp [wordCells]
theorem wordCells_append (l m : List Wd) : wordCells (l ++ m) = wordCells l ++ wordCells m := by simp [wordCells]
theorem wn_wrap (a : Wd) : IntKind.u32.wrap (wn a) = wn a := by
  rw [wd_wrap]
  have := wn_range a
  omega
theorem wn_shl8 (a : Wd) : IntKind.u32.wrap (wn a * (256 : Int)) = wn (a <<< 8) := wn_shl a 8
theorem wn_shl16 (a : Wd) : IntKind.u32.wrap (wn a * (65536 : Int)) = wn (a <<< 16) := wn_shl a 16
theorem wn_shl24 (a : Wd) : IntKind.u32.wrap (wn a * (16777216 : Int)) = wn (a <<< 24) := wn_shl a 24
/-- Bytes in memory, as words' numbers. -/
def BytesAt (w : World) (B o : Nat) (bs : List UInt8) : Prop := B < w.heap.size ∧ ∀ i, i < bs.length → w.cell? ⟨B, o + i, none⟩ = some (.int .u8 (wn (bw (bAt bs i))))
theorem BytesAt.below {w w' : World} {B o : Nat} {bs : List UInt8} (h : BytesAt w B o bs) (hb : Below w.heap.size w w') : BytesAt w' B o bs :=
  ⟨Nat.lt_of_lt_of_le h.1 hb.size, fun i hi => (hb.cell (p := ⟨B, o + i, none⟩) h.1).trans (h.2 i hi)⟩
theorem Tryz.info_u32 : (Tryz.prog.info? 120).map (fun i => (i.zero, i.size, i.bytes)) = some (some (.int .u32 0), 1, 4) := by kernel_rfl
end Go.Proofs.YtkepmjebnkcbgaaGreatDoor
