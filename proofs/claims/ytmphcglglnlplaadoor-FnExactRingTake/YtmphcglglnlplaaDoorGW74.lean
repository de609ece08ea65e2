/-
  Books handed over: sizes.
-/
import Derived.Test.YtmphcglglnlplaaDoorW70
import Derived.Test.YtmphcglglnlplaaDoorGW23
import Derived.Deep.RegionWith
namespace Go.Proofs.YtmphcglglnlplaaDoor
open Go.RowKit
set_option linter.unusedVariables false
theorem szA_le (a : Aff) (left : Int) (h : 0 ≤ left) : szA a left ≤ left := by
  unfold szA
  split
  · omega
  · split
    · omega
    · split
      · omega
      · split <;> omega
end Go.Proofs.YtmphcglglnlplaaDoor
/-
  Books handed over: copies.
-/
namespace Go.Proofs.YtmphcglglnlplaaDoor
open Go.RowKit
set_option linter.unusedVariables false
theorem rowIs_below7 {w w' : World} {b : Nat} {t : TypeId} {n : Nat} {f : Nat → Value} (h : w.rowIs b t n f) (hb : Below w.heap.size w w') : w'.rowIs b t n f := h.of_block (hb.block b h.lt)
theorem rowIs_made7 (w : World) (z : Array Value) (n : Nat) (t : TypeId) : ∃ f, (w.alloc (.cells (madeCells z n) t)).rowIs w.heap.size t n f :=
  ⟨fun i => (madeCells z n)[i]?.getD .nilFunc, _, Go.Deep.blk_alloc_new _ _, size_madeCells _ _, fun i hi => by
    have : i < (madeCells z n).size := by rw [size_madeCells]; exact hi
    simp [Array.getElem?_eq_getElem this]⟩
/-- make of a row of several cells an element. -/
theorem run_make7 (P : Program) (t e : TypeId) (zs : Array Value) (size bytes : Nat) (ht : P.underlying t = some (.slice e)) (hinfo : (P.info? e).map (fun i => (i.zero, i.size, i.bytes)) = some (some (.agg zs), size, bytes))
    (n : Nat) (hbytes : bytes * n ≤ 281474976710656) (h63 : n ≤ 9223372036854775807) (w : World) :
    (Instr.makeSlice t (.int .i64 (n : Int)) (.int .i64 (n : Int))).run P w = .ok (.slice (some ⟨w.heap.size, 0, none⟩) n n) (w.alloc (.cells (madeCells zs (n * size)) e)) := by
  obtain ⟨i, hi, hz, hs, hb⟩ := info_parts hinfo
  have hb' : (i.bytes : Int) * (n : Int) ≤ 281474976710656 := by
    have h : ((i.bytes * n : Nat) : Int) ≤ 281474976710656 := by rw [hb]; omega
    rwa [Int.natCast_mul] at h
  have hr := run_make (P := P) w t e i _ ht hi hz .i64 .i64 n n (by omega) (Int.le_refl _) hb' (by omega)
  simp only [Int.toNat_natCast, hs] at hr
  exact hr
/-- Five cells of a row are written. -/
theorem rowIs_set5 {w : World} {b : Nat} {t : TypeId} {n : Nat} {f : Nat → Value} (h : w.rowIs b t n f) (k : Nat) (v0 v1 v2 v3 v4 : Value) :
    (((((w.setCell ⟨b, k * 5, none⟩ v0).setCell ⟨b, k * 5 + 1, none⟩ v1).setCell ⟨b, k * 5 + 2, none⟩ v2).setCell ⟨b, k * 5 + 3, none⟩ v3).setCell ⟨b, k * 5 + 4, none⟩ v4).rowIs b t n (fun j => if j = k * 5 + 4 then v4 else if j = k * 5 + 3 then v3 else if j = k * 5 + 2 then v2 else if j = k * 5 + 1 then v1 else if j = k * 5 then v0 else f j) :=
  ((((h.set (k * 5) v0).set (k * 5 + 1) v1).set (k * 5 + 2) v2).set (k * 5 + 3) v3).set (k * 5 + 4) v4
theorem rowIs_set7 {w : World} {b : Nat} {t : TypeId} {n : Nat} {f : Nat → Value} (h : w.rowIs b t n f) (k : Nat) (v0 v1 : Value) :
    ((w.setCell ⟨b, k * 2, none⟩ v0).setCell ⟨b, k * 2 + 1, none⟩ v1).rowIs b t n (fun j => if j = k * 2 + 1 then v1 else if j = k * 2 then v0 else f j) :=
  (h.set (k * 2) v0).set (k * 2 + 1) v1
/-- Affixes so far. -/
def AffsTo (k : Nat) (xs : List Aff) (f : Nat → Value) : Prop :=
  ∀ (j : Nat) (x : Aff), j < k → xs[j]? = some x → f (j * 5) = .string x.flag ∧ f (j * 5 + 1) = .bool x.front ∧ f (j * 5 + 2) = .string x.strip ∧ f (j * 5 + 3) = .string x.add ∧ f (j * 5 + 4) = .string x.wh
theorem AffsTo.next {k : Nat} {xs : List Aff} {f : Nat → Value} (h : AffsTo k xs f) {x : Aff} (hx : xs[k]? = some x) :
    AffsTo (k + 1) xs (fun j => if j = k * 5 + 4 then .string x.wh else if j = k * 5 + 3 then .string x.add else if j = k * 5 + 2 then .string x.strip else if j = k * 5 + 1 then .bool x.front else if j = k * 5 then .string x.flag else f j) := by
  intro j y hj hy
  by_cases e : j = k
  · subst e
    rw [hx] at hy
    cases hy
    refine ⟨?_, ?_, ?_, ?_, ?_⟩
    · show (if j * 5 = j * 5 + 4 then _ else if j * 5 = j * 5 + 3 then _ else if j * 5 = j * 5 + 2 then _ else if j * 5 = j * 5 + 1 then _ else if j * 5 = j * 5 then _ else _) = _
      rw [if_neg (by omega), if_neg (by omega), if_neg (by omega), if_neg (by omega), if_pos rfl]
    · show (if j * 5 + 1 = j * 5 + 4 then _ else if j * 5 + 1 = j * 5 + 3 then _ else if j * 5 + 1 = j * 5 + 2 then _ else if j * 5 + 1 = j * 5 + 1 then _ else _) = _
      rw [if_neg (by omega), if_neg (by omega), if_neg (by omega), if_pos rfl]
    · show (if j * 5 + 2 = j * 5 + 4 then _ else if j * 5 + 2 = j * 5 + 3 then _ else if j * 5 + 2 = j * 5 + 2 then _ else _) = _
      rw [if_neg (by omega), if_neg (by omega), if_pos rfl]
    · show (if j * 5 + 3 = j * 5 + 4 then _ else if j * 5 + 3 = j * 5 + 3 then _ else _) = _
      rw [if_neg (by omega), if_pos rfl]
    · show (if j * 5 + 4 = j * 5 + 4 then _ else _) = _
      rw [if_pos rfl]
  · have key : ∀ i, i < 5 → (fun j => if j = k * 5 + 4 then Value.string x.wh else if j = k * 5 + 3 then .string x.add else if j = k * 5 + 2 then .string x.strip else if j = k * 5 + 1 then .bool x.front else if j = k * 5 then .string x.flag else f j) (j * 5 + i) = f (j * 5 + i) := by
      intro i hi
      show (if j * 5 + i = k * 5 + 4 then Value.string x.wh else if j * 5 + i = k * 5 + 3 then .string x.add else if j * 5 + i = k * 5 + 2 then .string x.strip else if j * 5 + i = k * 5 + 1 then .bool x.front else if j * 5 + i = k * 5 then .string x.flag else f (j * 5 + i)) = _
      rw [if_neg (by omega), if_neg (by omega), if_neg (by omega), if_neg (by omega), if_neg (by omega)]
    obtain ⟨h0, h1, h2, h3, h4⟩ := h j y (by omega) hy
    exact ⟨(key 0 (by omega)).trans h0, (key 1 (by omega)).trans h1, (key 2 (by omega)).trans h2, (key 3 (by omega)).trans h3, (key 4 (by omega)).trans h4⟩
theorem AffsTo.done {g : Nat} {xs : List Aff} {wr : World} {f : Nat → Value} {t : TypeId} (h : AffsTo xs.length xs f) (hr : wr.rowIs g t (xs.length * 5) f) (hm : xs.length ≤ maxLen) (hf : ∀ (i : Nat) (x : Aff), xs[i]? = some x → x.fits) :
    AffsAt wr (.slice (some ⟨g, 0, none⟩) xs.length xs.length) xs := by
  refine ⟨_, xs.length, rfl, Nat.le_refl _, hm, hf, fun _ => ⟨g, 0, rfl, hr.lt, fun i x hx => ?_⟩⟩
  have hi := (List.getElem?_eq_some_iff.1 hx).1
  obtain ⟨h0, h1, h2, h3, h4⟩ := h i x hi hx
  rw [Nat.zero_add]
  exact ⟨(hr.cell (by omega)).trans (by rw [h0]), (hr.cell (by omega)).trans (by rw [h1]), (hr.cell (by omega)).trans (by rw [h2]), (hr.cell (by omega)).trans (by rw [h3]), (hr.cell (by omega)).trans (by rw [h4])⟩
theorem AffsAt.fit {w : World} {v : Value} {xs : List Aff} (h : AffsAt w v xs) : ∀ (i : Nat) (x : Aff), xs[i]? = some x → x.fits := by
  obtain ⟨a, cap, hv, hc, hm, hf, hh⟩ := h
  exact hf
theorem EntsAt.fit {w : World} {v : Value} {es : List (ByteArray × ByteArray)} (h : EntsAt w v es) : ∀ (i : Nat) (x : ByteArray × ByteArray), es[i]? = some x → x.1.size ≤ maxLen ∧ x.2.size ≤ maxLen := by
  obtain ⟨a, cap, hv, hc, hm, hf, hh⟩ := h
  exact hf
theorem AffsAt.set {w : World} {b off n cap : Nat} {xs : List Aff} (h : AffsAt w (.slice (some ⟨b, off, none⟩) n cap) xs) {p : Addr} (hp : b ≠ p.block) (u : Value) : AffsAt (w.setCell p u) (.slice (some ⟨b, off, none⟩) n cap) xs := by
  obtain ⟨a, cap', hv, hc, hm, hf, hh⟩ := h
  cases hv
  refine ⟨_, cap, rfl, hc, hm, hf, fun hn => ?_⟩
  obtain ⟨b', off', ha, h2, h3⟩ := hh hn
  cases ha
  have e1 := Below.heap_setCell w p u b hp
  refine ⟨b, off, rfl, by simpa [World.setCell] using h2, fun i x hx => ?_⟩
  obtain ⟨c0, c1, c2, c3, c4⟩ := h3 i x hx
  exact ⟨(World.cell?_of_block (w := w) (a := ⟨b, _, none⟩) e1).trans c0, (World.cell?_of_block (w := w) (a := ⟨b, _, none⟩) e1).trans c1, (World.cell?_of_block (w := w) (a := ⟨b, _, none⟩) e1).trans c2, (World.cell?_of_block (w := w) (a := ⟨b, _, none⟩) e1).trans c3, (World.cell?_of_block (w := w) (a := ⟨b, _, none⟩) e1).trans c4⟩
theorem EntsAt.set {w : World} {b off n cap : Nat} {es : List (ByteArray × ByteArray)} (h : EntsAt w (.slice (some ⟨b, off, none⟩) n cap) es) {p : Addr} (hp : b ≠ p.block) (u : Value) : EntsAt (w.setCell p u) (.slice (some ⟨b, off, none⟩) n cap) es := by
  obtain ⟨a, cap', hv, hc, hm, hf, hh⟩ := h
  cases hv
  refine ⟨_, cap, rfl, hc, hm, hf, fun hn => ?_⟩
  obtain ⟨b', off', ha, h2, h3⟩ := hh hn
  cases ha
  have e1 := Below.heap_setCell w p u b hp
  refine ⟨b, off, rfl, by simpa [World.setCell] using h2, fun i x hx => ?_⟩
  obtain ⟨c0, c1⟩ := h3 i x hx
  exact ⟨(World.cell?_of_block (w := w) (a := ⟨b, _, none⟩) e1).trans c0, (World.cell?_of_block (w := w) (a := ⟨b, _, none⟩) e1).trans c1⟩
/-- Entries so far. -/
def EntsTo (k : Nat) (es : List (ByteArray × ByteArray)) (f : Nat → Value) : Prop :=
  ∀ (j : Nat) (x : ByteArray × ByteArray), j < k → es[j]? = some x → f (j * 2) = .string x.1 ∧ f (j * 2 + 1) = .string x.2
theorem EntsTo.next {k : Nat} {es : List (ByteArray × ByteArray)} {f : Nat → Value} (h : EntsTo k es f) {x : ByteArray × ByteArray} (hx : es[k]? = some x) :
    EntsTo (k + 1) es (fun j => if j = k * 2 + 1 then .string x.2 else if j = k * 2 then .string x.1 else f j) := by
  intro j y hj hy
  show (if j * 2 = k * 2 + 1 then Value.string x.2 else if j * 2 = k * 2 then .string x.1 else f (j * 2)) = _ ∧ (if j * 2 + 1 = k * 2 + 1 then Value.string x.2 else if j * 2 + 1 = k * 2 then .string x.1 else f (j * 2 + 1)) = _
  by_cases e : j = k
  · subst e
    rw [hx] at hy
    cases hy
    rw [if_neg (by omega), if_pos rfl, if_pos rfl]
    exact ⟨rfl, rfl⟩
  · rw [if_neg (by omega), if_neg (by omega), if_neg (by omega), if_neg (by omega)]
    exact h j y (by omega) hy
theorem EntsTo.done {g : Nat} {es : List (ByteArray × ByteArray)} {wr : World} {f : Nat → Value} {t : TypeId} (h : EntsTo es.length es f) (hr : wr.rowIs g t (es.length * 2) f) (hm : es.length ≤ maxLen) (hf : ∀ (i : Nat) (x : ByteArray × ByteArray), es[i]? = some x → x.1.size ≤ maxLen ∧ x.2.size ≤ maxLen) :
    EntsAt wr (.slice (some ⟨g, 0, none⟩) es.length es.length) es := by
  refine ⟨_, es.length, rfl, Nat.le_refl _, hm, hf, fun _ => ⟨g, 0, rfl, hr.lt, fun i x hx => ?_⟩⟩
  have hi := (List.getElem?_eq_some_iff.1 hx).1
  obtain ⟨h0, h1⟩ := h i x hi hx
  rw [Nat.zero_add]
  exact ⟨(hr.cell (by omega)).trans (by rw [h0]), (hr.cell (by omega)).trans (by rw [h1])⟩
end Go.Proofs.YtmphcglglnlplaaDoor
/-
  Books: toBook; eqBook where both are the same.
-/
namespace Go.Proofs.YtmphcglglnlplaaDoor
open Go.RowKit
set_option linter.unusedVariables false
theorem bcell7 {W w1 : World} (hb : Below W.heap.size W w1) : (∀ b o, b < W.heap.size → w1.cell? ⟨b, o, none⟩ = W.cell? ⟨b, o, none⟩) ∧ (∀ b o, b < W.heap.size → w1.frozen? ⟨b, o, none⟩ = W.frozen? ⟨b, o, none⟩) :=
  ⟨fun b o h => hb.cell (p := ⟨b, o, none⟩) h, fun b o h => hb.frozen (p := ⟨b, o, none⟩) h⟩
end Go.Proofs.YtmphcglglnlplaaDoor
