/-
  FnBookMore.
-/
import Derived.Test.YthikcililececaaW190
namespace Go.Proofs.Ythikcililececaa
open Go.RowKit
set_option linter.unusedVariables false
theorem knowsTo_ex {xs : List Aff} {es : List (ByteArray × ByteArray)} {s : ByteArray} : ∀ n, knowsTo xs es s n = true → ∃ i e, i < n ∧ es[i]? = some e ∧ s ∈ formsT xs e.1 e.2
  | 0, h => by cases h
  | n + 1, h => by
    unfold knowsTo at h
    rw [Bool.or_eq_true] at h
    rcases h with h | h
    · obtain ⟨i, e, hi, he, hs⟩ := knowsTo_ex n h
      exact ⟨i, e, by omega, he, hs⟩
    · split at h
      · next e he => exact ⟨n, e, by omega, he, (hasW_iff _ _).1 h⟩
      · cases h
theorem ent_bare {st fl : ByteArray} (h : entT st fl = true) : entT st ⟨#[]⟩ = true := by
  unfold entT at h ⊢
  rw [Bool.and_eq_true] at h ⊢
  exact ⟨h.1, by decide⟩
theorem set_ent {es : List (ByteArray × ByteArray)} {k : Nat} {st fl : ByteArray} (hx : es[k]? = some (st, fl)) (j : Nat) (e : ByteArray × ByteArray) (he : (es.set k (st, ⟨#[]⟩))[j]? = some e) : ∃ f, es[j]? = some (e.1, f) ∧ (e.2 = f ∨ e.2 = ⟨#[]⟩) := by
  rw [List.getElem?_set] at he
  split at he
  · next hk =>
    subst hk
    split at he
    · cases he
      exact ⟨fl, hx, .inr rfl⟩
    · cases he
  · exact ⟨e.2, he, .inl rfl⟩
theorem less_book {xs : List Aff} {es : List (ByteArray × ByteArray)} (hb : bookT xs es = true) {k : Nat} {st fl : ByteArray} (hx : es[k]? = some (st, fl)) : bookT xs (es.set k (st, ⟨#[]⟩)) = true := by
  have hent := fun i e he => bookT_ent (i := i) (e := e) hb he
  have hdif := @stems_differ xs es hb
  have hl := bookT_len hb
  have ha := bookT_affs hb
  unfold bookT
  rw [ha, Bool.true_and]
  unfold entsT
  rw [Bool.and_eq_true]
  refine ⟨by rw [List.length_set]; exact decide_eq_true hl, ?_⟩
  rw [List.all_eq_true]
  intro i hi
  unfold entAt
  split
  · rfl
  · next e he =>
    obtain ⟨f, hf, h2⟩ := set_ent hx i e he
    rw [Bool.and_eq_true]
    refine ⟨?_, ?_⟩
    · have := hent i _ hf
      rcases h2 with h2 | h2
      · rw [h2]; exact this
      · rw [h2]; exact ent_bare this
    · match i, hf with
      | 0, _ => rfl
      | j + 1, hf =>
        dsimp only
        split
        · rfl
        · next p hp =>
          obtain ⟨f', hf', _⟩ := set_ent hx j p hp
          exact hdif (i := j) (j := j + 1) (p := (p.1, f')) (q := (e.1, f)) (by omega) hf' hf
theorem less_words {xs : List Aff} {es : List (ByteArray × ByteArray)} (hb : bookT xs es = true) {k : Nat} {st fl : ByteArray} (hx : es[k]? = some (st, fl)) {s : ByteArray} (hs : s ∈ wordsT xs (es.set k (st, ⟨#[]⟩))) : hasW (wordsT xs es) s = true := by
  have hb' := less_book hb hx
  unfold wordsT at hs
  rw [if_pos hb', mem_wordsTo] at hs
  obtain ⟨i, e, hi, he, hs⟩ := knowsTo_ex _ hs
  obtain ⟨f, hf, h2⟩ := set_ent hx i e he
  refine form_word hb hf ?_
  rw [formsT_L hb' he] at hs
  have h3 := formsT_L hb hf
  dsimp only at h3
  rw [h3]
  rcases h2 with h2 | h2
  · rw [h2] at hs; exact hs
  · rw [h2, forms_alone] at hs
    rw [List.mem_singleton] at hs
    rw [hs]
    exact stem_own
theorem less_stem {xs : List Aff} {es : List (ByteArray × ByteArray)} (hb : bookT xs es = true) {k : Nat} {st fl : ByteArray} (hx : es[k]? = some (st, fl)) : hasW (wordsT xs (es.set k (st, ⟨#[]⟩))) st = true := by
  have hb' := less_book hb hx
  have hk : (es.set k (st, ⟨#[]⟩))[k]? = some (st, ⟨#[]⟩) := by rw [List.getElem?_set]; simp [(List.getElem?_eq_some_iff.1 hx).1]
  refine form_word hb' hk ?_
  have h3 := formsT_L hb' hk
  dsimp only at h3
  rw [h3]
  exact stem_own
theorem entCells_set : ∀ (es : List (ByteArray × ByteArray)) (k : Nat) (st fl u : ByteArray), es[k]? = some (st, fl) → (entCells es).set (k * 2 + 1) (.string u) = entCells (es.set k (st, u))
  | [], k, st, fl, u, h => by simp at h
  | e :: es, 0, st, fl, u, h => by
    simp at h
    subst h
    simp [entCells]
  | e :: es, k + 1, st, fl, u, h => by
    have ih := entCells_set es k st fl u (by simpa using h)
    have h1 : ∀ e : ByteArray × ByteArray, ∀ l, entCells (e :: l) = .string e.1 :: .string e.2 :: entCells l := fun e l => by simp [entCells]
    rw [List.set_cons_succ, h1, h1, ← ih, show (k + 1) * 2 + 1 = (k * 2 + 1) + 1 + 1 by omega, List.set_cons_succ, List.set_cons_succ]
theorem entCells_len (es : List (ByteArray × ByteArray)) : (entCells es).length = es.length * 2 := by
  induction es with
  | nil => rfl
  | cons e es ih =>
    have : entCells (e :: es) = .string e.1 :: .string e.2 :: entCells es := by simp [entCells]
    rw [this]
    simp only [List.length_cons]
    rw [ih]
    omega
theorem news_ents {W : World} {xs : List (ByteArray × ByteArray)} {b off n cap : Nat} (h : EntsAt W (.slice (some ⟨b, off, none⟩) n cap) xs) : ∀ j u, (entCells xs)[j]? = some u → W.cell? ((⟨b, off, none⟩ : Addr).add j) = some u := by
  intro j u hu
  have hj : j < xs.length * 2 := by have := (List.getElem?_eq_some_iff.1 hu).1; rwa [entCells_len] at this
  have hi : j / 2 < xs.length := by omega
  obtain ⟨b', off', cap', x, hv, _, hx, _, h0, h1⟩ := h.at hi
  cases hv
  obtain ⟨e0, e1⟩ := entCells_at xs (j / 2) x hx
  have h2 : j % 2 = 0 ∨ j % 2 = 1 := by omega
  have ha : (⟨b, off, none⟩ : Addr).add j = ⟨b, off + j, none⟩ := by simp [Addr.add]
  rw [ha]
  rcases h2 with h2 | h2
  · rw [show off + j = off + j / 2 * 2 by omega, h0]
    rw [show j = j / 2 * 2 by omega] at hu
    rw [e0] at hu
    exact hu
  · rw [show off + j = off + j / 2 * 2 + 1 by omega, h1]
    rw [show j = j / 2 * 2 + 1 by omega] at hu
    rw [e1] at hu
    exact hu
theorem entCells_one' (xs : List (ByteArray × ByteArray)) : ∀ u ∈ entCells xs, u.oneCell' = true := by
  intro u hu
  simp only [entCells, List.mem_flatMap] at hu
  obtain ⟨a, _, hu⟩ := hu
  simp at hu
  rcases hu with rfl | rfl <;> rfl
theorem owns_some {w : World} {lo n s : Nat} {e : TypeId} {v : Value} {xs : List Value} (h : w.ownsRow lo e s v n xs) (hn : n ≠ 0) : ∃ g cap cur, v = .slice (some ⟨g, 0, none⟩) n cap ∧ lo ≤ g ∧ w.heap[g]? = some (.cells cur e (0, 0)) := by
  rcases h.2 with ⟨_, h0⟩ | ⟨g, cap, cur, rfl, hbase, hb, _⟩
  · exact absurd h0 hn
  · exact ⟨g, cap, cur, rfl, hbase, hb⟩
theorem owns_cap {w : World} {lo g n cap s : Nat} {e : TypeId} {xs : List Value} (h : w.ownsRow lo e s (.slice (some ⟨g, 0, none⟩) n cap) n xs) : n ≤ cap ∧ cap ≤ maxLen := by
  rcases h.2 with ⟨h0, _⟩ | ⟨g', cap', cur, hv, hbase, hb, h1, h2, _⟩
  · cases h0
  · cases hv
    exact ⟨h1, h2⟩
theorem heap_set_other (w : World) {B g o : Nat} (u : Value) (h : B ≠ g) : (w.setCell ⟨g, o, none⟩ u).heap[B]? = w.heap[B]? := by
  unfold World.setCell
  rw [Array.getElem?_modify]
  simp [show ¬ g = B from fun e => h e.symm]
theorem more9 {w8 : World} {X g cg q : Nat} {es : List (ByteArray × ByteArray)} {e : ByteArray × ByteArray} (h : w8.ownsRow (X + 1) 25 2 (.slice (some ⟨g, 0, none⟩) es.length cg) es.length (entCells es)) (hq : es[q]? = some e) : w8.cell? ⟨g, q * 2 + 1, none⟩ = some (.string e.2) ∧ w8.frozen? ⟨g, q * 2 + 1, none⟩ = false := by
  rcases h.2 with ⟨h0, _⟩ | ⟨g', cap', cur, hv, hbase, hb, h1, h2, h3, h4⟩
  · cases h0
  · cases hv
    refine ⟨?_, Go.Joins.unfrozen_of_block hb _⟩
    rw [cell_of_row _ _ _ _ _ _ hb]
    obtain ⟨_, e1⟩ := entCells_at es q e hq
    have hl : q < es.length := (List.getElem?_eq_some_iff.1 hq).1
    rw [← h4, List.getElem?_take_of_lt (by omega), Array.getElem?_toList] at e1
    exact e1
theorem more10 {w8 w10 : World} {X g cg q : Nat} {va vb : Value} {es : List (ByteArray × ByteArray)} {st fl : ByteArray} (h : w8.ownsRow (X + 1) 25 2 (.slice (some ⟨g, 0, none⟩) es.length cg) es.length (entCells es)) (hX : w8.heap[X]? = some (.cells #[va, vb] 40 (0, 0))) (hg : X + 1 ≤ g) (hq : es[q]? = some (st, fl)) (hes : ∀ e ∈ es, e.1.size ≤ 20 ∧ e.2.size ≤ 20)
    (hw : (w8.setCell ⟨X, 1, none⟩ (.slice (some ⟨g, 0, none⟩) es.length cg)).setCell ⟨g, q * 2 + 1, none⟩ (.string ⟨#[]⟩) = w10) : w10.heap[X]? = some (.cells #[va, .slice (some ⟨g, 0, none⟩) es.length cg] 40 (0, 0)) ∧ EntsAt w10 (.slice (some ⟨g, 0, none⟩) es.length cg) (es.set q (st, ⟨#[]⟩)) ∧ Below X w8 w10 := by
  have hl : q < es.length := (List.getElem?_eq_some_iff.1 hq).1
  refine ⟨?_, ?_, ?_⟩
  · rw [← hw, heap_set_other _ _ (by omega)]
    exact set_box hX _
  · have h9 := owns_set h X 1 (.slice (some ⟨g, 0, none⟩) es.length cg) (by omega)
    have h10 := owns_poke h9 (q * 2 + 1) (.string ⟨#[]⟩) (by rw [entCells_len]; omega)
    rw [hw, entCells_set es q st fl ⟨#[]⟩ hq] at h10
    have hlen : (es.set q (st, ⟨#[]⟩)).length = es.length := List.length_set
    rw [← hlen] at h10 ⊢
    refine entsAt_of_owns h10 fun e he => ?_
    rcases List.mem_or_eq_of_mem_set he with h1 | h1
    · exact hes e h1
    · rw [h1]
      exact ⟨(hes _ (List.mem_of_getElem? hq)).1, by show (0 : Nat) ≤ 20; decide⟩
  · rw [← hw]
    exact ((Below.refl _ _).setCell (p := ⟨X, 1, none⟩) (Nat.le_refl _) _).setCell (p := ⟨g, q * 2 + 1, none⟩) (by show X ≤ g; omega) _
set_option maxRecDepth 100000 in
set_option maxHeartbeats 2000000 in
theorem fnBookMore_walk (a : Option Addr) (len cap : Nat) (zs : List Int) (a' : Option Addr) (len' cap' : Nat) (zs' : List Int) (w : World) (h : IsRow .u8 w a len cap zs) (h' : IsRow .u8 w a' len' cap' zs') :
    Calls Try.prog 6 #[.slice a len cap, .slice a' len' cap'] w fun e w' => e = .returned (.bool true) ∧ Below w.heap.size w w' := by
  by_cases h1 : (1048576 : Int) < (len : Int)
  · clear h h'
    go_enter Try.func6, Try.ntmps6
    go_wp2
    go_ret
    exact ⟨rfl, Below.refl _ _⟩
  by_cases h2 : (1048576 : Int) < (len' : Int)
  · clear h h'
    go_enter Try.func6, Try.ntmps6
    go_wp2
    go_ret
    exact ⟨rfl, Below.refl _ _⟩
  have HI : Hid (IsRow .u8 w a len cap zs) := h
  clear h h'
  obtain ⟨i4, hi4, hz4, hs4, hb4⟩ := info_parts info_ent173
  go_enter Try.func6, Try.ntmps6
  go_wp2_with fail
  refine (drawBookWords_any w a len cap zs HI.out).mono ?_
  rintro e w1 ⟨va, ve, xs, es, rfl, hva, hve, hx5, he25, -, hes, hb1⟩
  obtain ⟨b0, c0, rfl, -⟩ := hva.form
  obtain ⟨b1, c1, rfl, -⟩ := hve.form
  obtain ⟨w2, hw2⟩ : ∃ x, w1.alloc (.cells #[.slice b0 xs.length c0, .slice b1 es.length c1] 40) = x := ⟨_, rfl⟩
  have hb12 : Below w1.heap.size w1 w2 := by rw [← hw2]; exact (Below.refl w1.heap.size w1).alloc (Nat.le_refl _) _
  have HA : Hid (AffsAt w2 (.slice b0 xs.length c0) xs) := hva.below hb12
  have HE : Hid (EntsAt w2 (.slice b1 es.length c1) es) := hve.below hb12
  have HES : Hid (∀ e ∈ es, e.1.size ≤ 20 ∧ e.2.size ≤ 20) := hes
  have HB2 : Hid (Below w.heap.size w w2) := hb1.trans (hb12.mono hb1.size)
  have hz2 : w1.heap.size < w2.heap.size := by rw [← hw2]; simp
  have hbx : w2.heap[w1.heap.size]? = some (.cells #[.slice b0 xs.length c0, .slice b1 es.length c1] 40 (0, 0)) := by rw [← hw2]; exact heap_alloc_last w1 _
  have HX : Hid (∀ w', Below w2.heap.size w2 w' → w'.cell? ⟨w1.heap.size, 0, none⟩ = some (.slice b0 xs.length c0) ∧ w'.cell? ⟨w1.heap.size, 1, none⟩ = some (.slice b1 es.length c1)) := fun w' hb => ⟨by rw [cell_of_row _ _ 0 _ _ _ ((hb.block _ hz2).trans hbx)]; rfl, by rw [cell_of_row _ _ 1 _ _ _ ((hb.block _ hz2).trans hbx)]; rfl⟩
  clear hva hve hb1 hb12 hbx hes
  obtain ⟨x0, x1⟩ := HX.out w2 (Below.refl _ _)
  go_wp2_with fail
  clear hw2
  refine (implBookWords_any w2 _ _ xs es HA.out HE.out).mono ?_
  rintro e w3 ⟨v3, rfl, ht3, hb3⟩
  have HB3 : Hid (Below w2.heap.size w2 w3) := hb3
  have hws := (wordsT_small xs es).1
  obtain ⟨W, hW⟩ : ∃ W, wordsT xs es = W := ⟨_, rfl⟩
  rw [hW] at ht3 hws
  have HT3 : Hid (TextsAt w3 v3 W) := ht3.at
  obtain ⟨a3, c3, rfl, hc3, -⟩ := ht3.at.form
  have HWW : Hid (wordsT xs es = W) := hW
  clear hb3 x0 x1 ht3 hW
  obtain ⟨x0, x1⟩ := HX.out w3 HB3.out
  go_wp2_with fail
  refine (specBookWords_any w3 _ _ xs es (HA.out.below HB3.out) (HE.out.below HB3.out)).mono ?_
  rintro e w4 ⟨v4, rfl, ht4, hb4'⟩
  rw [HWW.out] at ht4
  obtain ⟨a4, c4, rfl, -⟩ := ht4.form
  have HT4 : Hid (TextsAt w4 (.slice a4 W.length c4) W) := ht4
  have HC4 : Hid (Below w3.heap.size w3 w4) := hb4'
  have HB4 : Hid (Below w2.heap.size w2 w4) := HB3.out.trans (hb4'.mono HB3.out.size)
  clear hb4' ht4 x0 x1
  obtain ⟨x0, x1⟩ := HX.out w4 HB4.out
  go_wp2_with fail
  refine (mdTexts_same _ _ _ W (HT3.out.below HC4.out) HT4.out).mono ?_
  rintro e w5 ⟨rfl, hb5⟩
  have HC5 : Hid (Below w3.heap.size w3 w5) := HC4.out.trans (hb5.mono HC4.out.size)
  have HB5 : Hid (Below w2.heap.size w2 w5) := HB4.out.trans (hb5.mono HB4.out.size)
  clear hb5 x0 x1
  obtain ⟨x0, x1⟩ := HX.out w5 HB5.out
  go_wp2_with fail
  refine (specBookOk_any w5 _ _ xs es (HA.out.below HB5.out) (HE.out.below HB5.out)).mono ?_
  rintro e w6 ⟨rfl, hb6⟩
  have HC6 : Hid (Below w3.heap.size w3 w6) := HC5.out.trans (hb6.mono HC5.out.size)
  have HB6 : Hid (Below w2.heap.size w2 w6) := HB5.out.trans (hb6.mono HB5.out.size)
  clear hb6 x0 x1
  obtain ⟨x0, x1⟩ := HX.out w6 HB6.out
  have END : ∀ (hh : (bookT xs es && !(decide (es.length = 0))) = false), True := fun _ => trivial
  clear END
  cases hbk : bookT xs es with
  | false =>
    go_wp2_with fail
    refine (specBookWords_any w6 _ _ xs es (HA.out.below HB6.out) (HE.out.below HB6.out)).mono ?_
    rintro e w7 ⟨v7, rfl, ht7, hb7⟩
    rw [HWW.out] at ht7
    obtain ⟨a7, c7, rfl, -⟩ := ht7.form
    have HT7 : Hid (TextsAt w7 (.slice a7 W.length c7) W) := ht7
    have HC7 : Hid (Below w3.heap.size w3 w7) := HC6.out.trans (hb7.mono HC6.out.size)
    have HB7 : Hid (Below w2.heap.size w2 w7) := HB6.out.trans (hb7.mono HB6.out.size)
    clear hb7 ht7 x0 x1
    go_wp2_with fail
    refine (mdTexts_same _ _ _ W (HT3.out.below HC7.out) HT7.out).mono ?_
    rintro e w8 ⟨rfl, hb8⟩
    have HB8 : Hid (Below w2.heap.size w2 w8) := HB7.out.trans (hb8.mono HB7.out.size)
    clear hb8
    go_wp2
    go_ret
    exact ⟨rfl, HB2.out.trans (HB8.out.mono HB2.out.size)⟩
  | true =>
   have HBK : Hid (bookT xs es = true) := hbk
   by_cases hne : es.length = 0
   · have hn0 : ((es.length : Int) == 0) = true := by rw [hne]; rfl
     clear hne
     go_wp2_with fail
     refine (specBookWords_any w6 _ _ xs es (HA.out.below HB6.out) (HE.out.below HB6.out)).mono ?_
     rintro e w7 ⟨v7, rfl, ht7, hb7⟩
     rw [HWW.out] at ht7
     obtain ⟨a7, c7, rfl, -⟩ := ht7.form
     have HT7 : Hid (TextsAt w7 (.slice a7 W.length c7) W) := ht7
     have HC7 : Hid (Below w3.heap.size w3 w7) := HC6.out.trans (hb7.mono HC6.out.size)
     have HB7 : Hid (Below w2.heap.size w2 w7) := HB6.out.trans (hb7.mono HB6.out.size)
     clear hb7 ht7 x0 x1
     go_wp2_with fail
     refine (mdTexts_same _ _ _ W (HT3.out.below HC7.out) HT7.out).mono ?_
     rintro e w8 ⟨rfl, hb8⟩
     have HB8 : Hid (Below w2.heap.size w2 w8) := HB7.out.trans (hb8.mono HB7.out.size)
     clear hb8
     go_wp2
     go_ret
     exact ⟨rfl, HB2.out.trans (HB8.out.mono HB2.out.size)⟩
   · have hn0 : ((es.length : Int) == 0) = false := by rw [beq_eq_false_iff_ne]; omega
     obtain ⟨q, hq⟩ : ∃ q : Nat, q = len' % es.length := ⟨_, rfl⟩
     have hql : q < es.length := by rw [hq]; exact Nat.mod_lt _ (by omega)
     have hqi : (len' : Int).tmod (es.length : Int) = (q : Int) := by rw [hq]; rfl
     have hqj : (len' : Int) % (es.length : Int) = (q : Int) := by rw [hq]; rfl
     clear hq
     obtain ⟨b, off, cap2, x, hv, hbl, hx, hxf, e0, e1⟩ := (HE.out.below HB6.out).at hql
     cases hv
     obtain ⟨st, fl⟩ := x
     have HXk : Hid (es[q]? = some (st, fl)) := hx
     simp only at e0 e1 hxf
     clear hx hxf e0 e1
     have i0 : (0 : Int) ≤ (q : Int) := by omega
     have i1 : (q : Int) < (es.length : Int) := by omega
     obtain ⟨w7, hw7⟩ : ∃ x, (w6.alloc (.cells #[.slice b0 xs.length c0, .slice (some ⟨b, off, none⟩) es.length c1] 40)).alloc (.cells #[] 25) = x := ⟨_, rfl⟩
     have HC67 : Hid (Below w6.heap.size w6 w7) := by rw [← hw7]; exact ((Below.refl _ _).alloc (Nat.le_refl _) _).alloc (by simp) _
     have HB7 : Hid (Below w2.heap.size w2 w7) := HB6.out.trans (HC67.out.mono HB6.out.size)
     have HOW : Hid (w7.ownsRow (w6.heap.size + 1) 25 2 (.slice (some ⟨w6.heap.size + 1, 0, none⟩) 0 0) 0 []) := by
       rw [← hw7]
       refine owns_alone ?_ (Nat.le_refl _)
       have h := heap_alloc_last (w6.alloc (.cells #[.slice b0 xs.length c0, .slice (some ⟨b, off, none⟩) es.length c1] 40)) (.cells #[] 25)
       rw [World.size_alloc] at h
       exact h
     have HXB : Hid (w7.heap[w6.heap.size]? = some (.cells #[.slice b0 xs.length c0, .slice (some ⟨b, off, none⟩) es.length c1] 40 (0, 0))) := by
       show _ = _
       rw [← hw7]
       have h := ((Below.refl _ (w6.alloc (.cells #[.slice b0 xs.length c0, .slice (some ⟨b, off, none⟩) es.length c1] 40))).alloc (Nat.le_refl _) (.cells #[] 25)).block w6.heap.size (by simp)
       exact h.trans (heap_alloc_last w6 _)
     have HNW : Hid (EntsAt w7 (.slice (some ⟨b, off, none⟩) es.length c1) es) := HE.out.below HB7.out
     have hz7 : w7.heap.size = w6.heap.size + 1 + 1 := by rw [← hw7]; simp
     have hz6 : w1.heap.size < w6.heap.size := Nat.lt_of_lt_of_le hz2 HB6.out.size
     obtain ⟨y0, y1⟩ := HX.out w7 HB7.out
     go_wp2_with (at_builtin; refine wpList_append_own _ rfl _ _ 38 rfl (w6.heap.size + 1) 25 i4 (.agg #[.string ⟨#[]⟩, .string ⟨#[]⟩]) 2 32 Try.underlying38 hi4 hz4 hs4 hb4 rfl (by decide) (.slice (some ⟨w6.heap.size + 1, 0, none⟩) 0 0) 0 [] rfl HOW.out ⟨b, off, none⟩ es.length c1 (entCells es) rfl (entCells_len es) (news_ents HNW.out) (entCells_one' es) (by unfold maxLen; omega) (by omega) (by omega) ?_; intro v8 w8 hown hgrow hnil; rw [Nat.zero_add, List.nil_append] at hown; obtain ⟨g, cg, cur, hv8, hg, hcur⟩ := owns_some hown (by omega); subst hv8; have HB78 : Hid (Below (w6.heap.size + 1) w7 w8) := below_of_grown hgrow (fun k hk => by simp [Value.ownBlock] at hk; omega) (by omega); have HOW8 : Hid (w8.ownsRow (w6.heap.size + 1) 25 2 (.slice (some ⟨g, 0, none⟩) es.length cg) es.length (entCells es)) := hown; have HXB8 : Hid (w8.heap[w6.heap.size]? = some (.cells #[.slice b0 xs.length c0, .slice (some ⟨b, off, none⟩) es.length c1] 40 (0, 0))) := (HB78.out.block w6.heap.size (by omega)).trans HXB.out; have z0 : w8.cell? ⟨w6.heap.size, 0, none⟩ = some (.slice b0 xs.length c0) := (by rw [cell_of_row _ _ 0 _ _ _ HXB8.out]; rfl); have z1 : w8.cell? ⟨w6.heap.size, 1, none⟩ = some (.slice (some ⟨b, off, none⟩) es.length c1) := (by rw [cell_of_row _ _ 1 _ _ _ HXB8.out]; rfl); have u1 := Go.Joins.unfrozen_of_block HXB8.out 1; have hcg := (owns_cap hown).1; obtain ⟨k1, uk⟩ := more9 hown HXk.out; obtain ⟨w10, hw10⟩ : ∃ x, (w8.setCell ⟨w6.heap.size, 1, none⟩ (.slice (some ⟨g, 0, none⟩) es.length cg)).setCell ⟨g, q * 2 + 1, none⟩ (.string ⟨#[]⟩) = x := ⟨_, rfl⟩; obtain ⟨p0, p1, p2⟩ := more10 hown HXB8.out hg HXk.out HES.out hw10; have HXB10 : Hid (w10.heap[w6.heap.size]? = some (.cells #[.slice b0 xs.length c0, .slice (some ⟨g, 0, none⟩) es.length cg] 40 (0, 0))) := p0; have HE10 : Hid (EntsAt w10 (.slice (some ⟨g, 0, none⟩) es.length cg) (es.set q (st, ⟨#[]⟩))) := p1; have HB610 : Hid (Below w6.heap.size w6 w10) := HC67.out.trans ((HB78.out.mono (Nat.le_succ _)).trans p2); have y0 : w10.cell? ⟨w6.heap.size, 0, none⟩ = some (.slice b0 xs.length c0) := (by rw [cell_of_row _ _ 0 _ _ _ HXB10.out]; rfl); have y1 : w10.cell? ⟨w6.heap.size, 1, none⟩ = some (.slice (some ⟨g, 0, none⟩) es.length cg) := (by rw [cell_of_row _ _ 1 _ _ _ HXB10.out]; rfl); clear hown hgrow hnil hcur p0 p1 p2)
     clear hw10 hw7 z0 z1 u1 k1 uk
     obtain ⟨es', hes'⟩ : ∃ l, es.set q (st, ⟨#[]⟩) = l := ⟨_, rfl⟩
     have HB10 : Hid (Below w2.heap.size w2 w10) := HB6.out.trans (HB610.out.mono HB6.out.size)
     have HBKx : Hid (bookT xs es' = true) := by rw [← hes']; exact less_book HBK.out HXk.out
     have HLW : Hid (∀ s ∈ wordsT xs es', memT W s = true) := by rw [← hes']; exact fun s hs => by rw [memT_hasW2, ← HWW.out]; exact less_words HBK.out HXk.out hs
     have HLS : Hid (memT (wordsT xs es') st = true) := by rw [← hes']; show _ = _; rw [memT_hasW2]; exact less_stem HBK.out HXk.out
     rw [hes'] at HE10
     clear hes'
     refine (implBookWords_any w10 _ _ xs es' (HA.out.below HB10.out) HE10.out).mono ?_
     rintro e w11 ⟨v11, rfl, ht11, hb11⟩
     have hls := (wordsT_small xs es').1
     obtain ⟨L, hL⟩ : ∃ L, wordsT xs es' = L := ⟨_, rfl⟩
     rw [hL] at ht11 hls HLW HLS
     have HT11 : Hid (TextsAt w11 v11 L) := ht11.at
     obtain ⟨a11, c11, rfl, hc11, -⟩ := ht11.at.form
     have HB11 : Hid (Below w10.heap.size w10 w11) := hb11
     clear hb11 ht11 hL y0 y1
     have hz10 : w6.heap.size < w10.heap.size := lt_of_block HXB10.out
     go_wp2
     go_loopw [10] (fun i wi => ∃ (j : Nat), j ≤ L.length ∧ i = .int .i64 j ∧ Below w11.heap.size w11 wi) (fun i _ => L.length - (intOf i).toNat)
     case atStart => exact ⟨0, Nat.zero_le _, rfl, Below.refl _ _⟩
     case round =>
       rename World => wi
       obtain ⟨j, hj, rfl, hb⟩ := hrel
       have HBi : Hid (Below w11.heap.size w11 wi) := hb
       clear hb
       have HB10i : Hid (Below w10.heap.size w10 wi) := HB11.out.trans (HBi.out.mono HB11.out.size)
       have HB2i : Hid (Below w2.heap.size w2 wi) := HB10.out.trans (HB10i.out.mono HB10.out.size)
       by_cases hlj : j < L.length
       · obtain ⟨b', off', cap3, s, hv', _, hs, _, d2⟩ := (HT11.out.below HBi.out).at hlj
         cases hv'
         have HM : Hid (memT W s = true) := HLW.out s (List.mem_of_getElem? hs)
         have HTi : Hid (TextsAt wi (.slice a3 W.length c3) W) := HT3.out.below (HC6.out.trans ((HB610.out.trans (HB10i.out.mono HB610.out.size)).mono HC6.out.size))
         clear hs
         go_wp2_with fail
         refine (mdHas_any _ _ W s HTi.out).mono ?_
         rintro e w12 ⟨rfl, hb12⟩
         have HB12 : Hid (Below w11.heap.size w11 w12) := HBi.out.trans (hb12.mono HBi.out.size)
         clear hb12 d2
         rw [HM.out]
         go_wp2
         go_roundw
         case rel => exact ⟨j + 1, by omega, by go_num, HB12.out⟩
         case measure => simp [intOf]; omega
       · have hXi : wi.heap[w6.heap.size]? = _ := (HB10i.out.block _ hz10).trans HXB10.out
         have y0 : wi.cell? ⟨w6.heap.size, 0, none⟩ = some (.slice b0 xs.length c0) := by rw [cell_of_row _ _ 0 _ _ _ hXi]; rfl
         have y1 : wi.cell? ⟨w6.heap.size, 1, none⟩ = some (.slice (some ⟨g, 0, none⟩) es.length cg) := by rw [cell_of_row _ _ 1 _ _ _ hXi]; rfl
         clear hXi
         go_wp2_with fail
         refine (implBookOk_any wi _ _ xs es' (HA.out.below HB2i.out) (HE10.out.below HB10i.out)).mono ?_
         rintro e w12 ⟨rfl, hb12⟩
         rw [HBKx.out]
         have HB12 : Hid (Below wi.heap.size wi w12) := hb12
         have HB2j : Hid (Below w2.heap.size w2 w12) := HB2i.out.trans (hb12.mono HB2i.out.size)
         clear hb12 y0 y1
         obtain ⟨x0, x1⟩ := HX.out w12 HB2j.out
         obtain ⟨b', off', cap3, x, hv', hbl', hx, hxf, e0, e1⟩ := (HE.out.below HB2j.out).at hql
         cases hv'
         rw [HXk.out] at hx
         cases hx
         simp only at e0 e1
         clear hxf
         have HTj : Hid (TextsAt w12 (.slice a11 L.length c11) L) := (HT11.out.below HBi.out).below HB12.out
         go_wp2_with fail
         refine (mdHas_any _ _ L st HTj.out).mono ?_
         rintro e w13 ⟨rfl, hb13⟩
         rw [HLS.out]
         have HB13 : Hid (Below w2.heap.size w2 w13) := HB2j.out.trans (hb13.mono HB2j.out.size)
         clear hb13
         go_wp2
         go_ret
         exact ⟨rfl, HB2.out.trans (HB13.out.mono HB2.out.size)⟩
end Go.Proofs.Ythikcililececaa
