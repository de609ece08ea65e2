/-
  Rows that the call makes by append: texts, affixes, entries.
-/
import Derived.Test.YtdjpeickokoclaaDoorW13
import Derived.Test.YtdjpeickokoclaaDoorW70
import Derived.Test.YtdjpeickokoclaaDoorGW74
import Derived.Test.YtdjpeickokoclaaDoorW119
import Derived.Test.YtdjpeickokoclaaDoorGW92
import Derived.Test.YtdjpeickokoclaaDoorGM30
namespace Go.Proofs.YtdjpeickokoclaaDoor
open Go.RowKit
set_option linter.unusedVariables false
/-- Two rows of other types are two blocks. -/
theorem rows_apart {w : World} {lo lo' : Nat} {e e' : TypeId} {s s' n n' : Nat} {v v' : Value} {xs xs' : List Value} (h : w.ownsRow lo e s v n xs) (h' : w.ownsRow lo' e' s' v' n' xs') (hne : e ≠ e') : v.ownBlock = none ∨ v.ownBlock ≠ v'.ownBlock := by
  rcases h.2 with ⟨rfl, _⟩ | ⟨g, cap, cur, rfl, _, hb, _⟩
  · exact .inl rfl
  · right
    rcases h'.2 with ⟨rfl, _⟩ | ⟨g', cap', cur', rfl, _, hb', _⟩
    · simp [Value.ownBlock]
    · intro e1
      have : g = g' := by simpa [Value.ownBlock] using e1
      subst this
      rw [hb] at hb'
      cases hb'
      exact hne rfl
theorem own_block_ge {w : World} {lo : Nat} {e : TypeId} {s n : Nat} {v : Value} {xs : List Value} (h : w.ownsRow lo e s v n xs) : ∀ k, v.ownBlock = some k → lo ≤ k := by
  intro k hk
  exact (World.ownsRow.lt h k hk).1
theorem owns_form {w : World} {lo : Nat} {e : TypeId} {s n : Nat} {v : Value} {xs : List Value} (h : w.ownsRow lo e s v n xs) : ∃ a cap, v = .slice a n cap := by
  rcases h.2 with ⟨rfl, rfl⟩ | ⟨g, cap, cur, rfl, _⟩
  · exact ⟨none, 0, rfl⟩
  · exact ⟨_, cap, rfl⟩
theorem owns_below {lo : Nat} {w w' : World} {e : TypeId} {size k : Nat} {v : Value} {xs : List Value} (h : w.ownsRow lo e size v k xs) (hb : Below w.heap.size w w') : w'.ownsRow lo e size v k xs := by
  refine ⟨h.1, ?_⟩
  rcases h.2 with h | ⟨g, cap, cur, hv, h1, h2, r⟩
  · exact .inl h
  · exact .inr ⟨g, cap, cur, hv, h1, (hb.block g (Array.getElem?_eq_some_iff.1 h2).1).trans h2, r⟩
theorem news_cells {W : World} {B : Nat} {cs : Array Value} {t : TypeId} (h : W.heap[B]? = some (.cells cs t (0, 0))) : ∀ j u, cs.toList[j]? = some u → W.cell? ((⟨B, 0, none⟩ : Addr).add j) = some u := by
  intro j u hu
  rw [add_zero_at, Nat.zero_add, cell_of_row W B j _ _ _ h]
  simpa using hu
theorem owns_lower {W : World} {n₁ lo : Nat} {e : TypeId} {size k : Nat} {v : Value} {xs : List Value} (h : W.ownsRow n₁ e size v k xs) (hle : lo ≤ n₁) : W.ownsRow lo e size v k xs := by
  refine ⟨h.1, ?_⟩
  rcases h.2 with h | ⟨g, cap, cur, hv, hb, r⟩
  · exact .inl h
  · exact .inr ⟨g, cap, cur, hv, Nat.le_trans hle hb, r⟩
theorem row_ne_block {w : World} {lo B : Nat} {e e' : TypeId} {s n : Nat} {v : Value} {xs : List Value} {cs : Array Value} {z : Nat × Nat} (h : w.ownsRow lo e s v n xs) (hB : w.heap[B]? = some (.cells cs e' z)) (hne : e ≠ e') : some B ≠ v.ownBlock := by
  rcases h.2 with ⟨rfl, _⟩ | ⟨g, cap, cur, rfl, _, hb, _⟩
  · simp [Value.ownBlock]
  · intro e1
    have : B = g := by simpa [Value.ownBlock] using e1
    subst this
    rw [hb] at hB
    cases hB
    exact hne rfl
/-- What is owned, as a row of one's own. -/
theorem rowOwn_of_owns {w : World} {lo : Nat} {e : TypeId} {size : Nat} {v : Value} {n : Nat} {xs : List Value} {C : (Nat → Value) → Prop} (h : w.ownsRow lo e size v n xs) (hC : ∀ f : Nat → Value, (∀ i u, xs[i]? = some u → f i = u) → C f) : RowOwn e size lo w.heap.size w v n C := by
  rcases h.2 with ⟨rfl, rfl⟩ | ⟨g, cap, cur, rfl, hbase, hb, h1, h2, h3, h4⟩
  · exact ⟨none, 0, rfl, Nat.le_refl _, Nat.zero_le _, fun hn => absurd rfl hn⟩
  · have hg : g < w.heap.size := (Array.getElem?_eq_some_iff.1 hb).1
    refine ⟨some ⟨g, 0, none⟩, cap, rfl, h1, h2, fun _ => ⟨g, cur.size, fun i => cur[i]?.getD (.bool false), rfl, hbase, hg, by rw [h3]; exact Nat.mul_le_mul_right _ h1, ⟨cur, hb, rfl, fun i hi => by simp [hi]⟩, hC _ fun i u hu => ?_⟩⟩
    have hi : i < n * size := by have := (List.getElem?_eq_some_iff.1 hu).1; rw [h.1] at this; exact this
    have e1 : (cur.toList.take (n * size))[i]? = some u := by rw [h4]; exact hu
    rw [List.getElem?_take_of_lt hi, Array.getElem?_toList] at e1
    show cur[i]?.getD (.bool false) = u
    rw [e1]
    rfl
theorem owns_set {w : World} {lo : Nat} {e : TypeId} {s n : Nat} {v : Value} {xs : List Value} (h : w.ownsRow lo e s v n xs) (b o : Nat) (u : Value) (hb : b < lo) : (w.setCell ⟨b, o, none⟩ u).ownsRow lo e s v n xs :=
  h.kept (grown_set w b o u) (by
    rcases h.2 with ⟨rfl, _⟩ | ⟨g, cap, cur, rfl, hg, _⟩
    · exact .inl rfl
    · right
      simp only [Value.ownBlock]
      intro e1
      have : g = b := by simpa using e1
      omega)
end Go.Proofs.YtdjpeickokoclaaDoor
/-
  Rows of words; bytes in memory as words' numbers.
-/
namespace Go.Proofs.YtdjpeickokoclaaDoor
open Go.RowKit
set_option linter.unusedVariables false
def wordCells (l : List Wd) : List Value := l.map fun a => .int .u32 (wn a)
theorem wordCells_len (l : List Wd) : (wordCells l).length = l.length := by simp [wordCells]
theorem wordCells_append (l m : List Wd) : wordCells (l ++ m) = wordCells l ++ wordCells m := by simp [wordCells]
theorem wn_wrap (a : Wd) : IntKind.u32.wrap (wn a) = wn a := by
  rw [wd_wrap]
  have := wn_range a
  omega
theorem wn_shl8 (a : Wd) : IntKind.u32.wrap (wn a * (256 : Int)) = wn (a <<< 8) := wn_shl a 8
theorem wn_shl16 (a : Wd) : IntKind.u32.wrap (wn a * (65536 : Int)) = wn (a <<< 16) := wn_shl a 16
theorem wn_shl24 (a : Wd) : IntKind.u32.wrap (wn a * (16777216 : Int)) = wn (a <<< 24) := wn_shl a 24
/-- Bytes in memory, as words' numbers. -/
def BytesAt (w : World) (B o : Nat) (bs : List UInt8) : Prop := B < w.heap.size ∧ ∀ i, i < bs.length → w.cell? ⟨B, o + i, none⟩ = some (.int .u8 (wn (bw (bAt bs i))))
theorem BytesAt.below {w w' : World} {B o : Nat} {bs : List UInt8} (h : BytesAt w B o bs) (hb : Below w.heap.size w w') : BytesAt w' B o bs :=
  ⟨Nat.lt_of_lt_of_le h.1 hb.size, fun i hi => (hb.cell (p := ⟨B, o + i, none⟩) h.1).trans (h.2 i hi)⟩
theorem Tryd.info_u32 : (Tryd.prog.info? 70).map (fun i => (i.zero, i.size, i.bytes)) = some (some (.int .u32 0), 1, 4) := by kernel_rfl
end Go.Proofs.YtdjpeickokoclaaDoor
