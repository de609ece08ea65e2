/-
  slices.Insert of texts, what comes being one's own.
-/
import Derived.Test.YtcmajekdalcjeaaGreatW398
import Derived.Test.YtcmajekdalcjeaaGreatW13
import Derived.Ground.Names2Prog
import Derived.Lib.SliceRun
import Derived.Shelf.SlicesE.DeleteFunc
import Derived.Shelf.Spec.SlicesInsert
import Derived.Shelf.Spec.SlicesInsertGrow
namespace Go.Proofs.YtcmajekdalcjeaaGreat
open Go.RowKit
set_option linter.unusedVariables false
theorem fits505 {xs : List ByteArray} (h : ∀ x ∈ xs, x.size ≤ maxLen) : ∀ (i : Nat) (x : ByteArray), xs[i]? = some x → x.size ≤ maxLen := fun i x hx => h x (List.mem_of_getElem? hx)
def InsR505 (lo : Nat) (w : World) (v : Value) (xs : List ByteArray) : Prop := TextsRow lo w.heap.size w v xs ∧ w.ownsRow lo 9 1 v xs.length (texts xs)
theorem rowIs_cells505 {g : Nat} {t : TypeId} {m : Nat} : ∀ (vs : List Value) (o : Nat) (w : World) (f : Nat → Value), w.rowIs g t m f → ∃ f' : Nat → Value, (w.setCells g o vs).rowIs g t m f' ∧ (∀ j v, vs[j]? = some v → f' (o + j) = v) ∧ ∀ i, (i < o ∨ o + vs.length ≤ i) → f' i = f i
  | [], o, w, f, h => ⟨f, h, fun j v hv => by simp at hv, fun i _ => rfl⟩
  | v :: vs, o, w, f, h => by
    obtain ⟨f', h1, h2, h3⟩ := rowIs_cells505 vs (o + 1) _ _ (h.set o v)
    refine ⟨f', h1, fun j u hu => ?_, fun i hi => ?_⟩
    · cases j with
      | zero => simp at hu; subst hu; rw [Nat.add_zero, h3 o (Or.inl (by omega))]; simp
      | succ j => rw [show o + (j + 1) = o + 1 + j by omega]; exact h2 j u (by simpa using hu)
    · rw [List.length_cons] at hi
      rw [h3 i (by omega)]
      have : ¬ i = o := by omega
      simp [this]
theorem below_cells505 {B g : Nat} {a : World} (hg : B ≤ g) : ∀ (vs : List Value) (o : Nat) (w : World), Below B a w → Below B a (w.setCells g o vs)
  | [], _, _, h => h
  | v :: vs, o, w, h => below_cells505 hg vs (o + 1) _ (h.setCell (p := ⟨g, o, none⟩) hg v)
theorem rowOf505 {W : World} {g : Nat} {c : Array Value} {t : TypeId} (h : W.heap[g]? = some (.cells c t (0, 0))) : W.rowIs g t c.size (fun i => c[i]?.getD (.bool false)) := ⟨c, h, rfl, fun i hi => by simp [hi]⟩
theorem rowIs_drew505 {w : World} {g m : Nat} {t : TypeId} {f : Nat → Value} (h : w.rowIs g t m f) : w.drew.rowIs g t m f := h
theorem insDone505 {lo g m k c : Nat} {W : World} {f : Nat → Value} {xs : List ByteArray} {s : ByteArray} (h : W.rowIs g 9 m f) (hlo : lo ≤ g) (hk : k ≤ xs.length) (h1 : xs.length + 1 ≤ c) (h2 : c ≤ maxLen) (h3 : xs.length + 1 ≤ m) (hmc : m = c)
    (a1 : ∀ j x, j < k → xs[j]? = some x → f j = .string x) (a2 : f k = .string s) (a3 : ∀ j x, k ≤ j → xs[j]? = some x → f (j + 1) = .string x) (hf : ∀ x ∈ xs.take k ++ s :: xs.drop k, x.size ≤ maxLen) :
    InsR505 lo W (.slice (some ⟨g, 0, none⟩) (xs.length + 1) c) (xs.take k ++ s :: xs.drop k) := by
  have hl : (xs.take k ++ s :: xs.drop k).length = xs.length + 1 := by simp; omega
  have ht : (xs.take k).length = k := by rw [List.length_take]; omega
  have HC : TxTo (xs.take k ++ s :: xs.drop k).length (xs.take k ++ s :: xs.drop k) f := by
    intro j x hj hx
    rcases Nat.lt_trichotomy j k with hjk | hjk | hjk
    · rw [List.getElem?_append_left (by omega), List.getElem?_take_of_lt hjk] at hx
      exact a1 j x hjk hx
    · subst hjk
      rw [List.getElem?_append_right (by omega), ht, Nat.sub_self] at hx
      simp at hx
      subst hx
      exact a2
    · obtain ⟨d, rfl⟩ : ∃ d, j = k + d + 1 := ⟨j - k - 1, by omega⟩
      rw [List.getElem?_append_right (by omega), ht, show k + d + 1 - k = d + 1 by omega, List.getElem?_cons_succ, List.getElem?_drop] at hx
      exact a3 (k + d) x (by omega) hx
  refine ⟨⟨⟨some ⟨g, 0, none⟩, c, by rw [hl], by rw [hl]; exact h1, h2, fun _ => ⟨g, m, f, rfl, hlo, h.lt, by rw [hl]; omega, h, HC⟩⟩, fits505 hf⟩, by simp [texts], .inr ?_⟩
  obtain ⟨cur, hcur, hsz, hat⟩ := h
  refine ⟨g, c, cur, by rw [hl], hlo, hcur, by rw [hl]; exact h1, h2, by rw [hsz, hmc]; omega, ?_⟩
  apply List.ext_getElem?
  intro j
  by_cases hj : j < (xs.take k ++ s :: xs.drop k).length
  · have hx := List.getElem?_eq_getElem hj
    rw [List.getElem?_take_of_lt (by omega), Array.getElem?_toList, hat j (by omega), HC j _ hj hx]
    simp only [texts, List.getElem?_map, hx, Option.map_some]
  · rw [List.getElem?_eq_none (by rw [List.length_take]; omega), List.getElem?_eq_none (by simp only [texts, List.length_map]; omega)]
theorem texts_at505 {xs : List ByteArray} {j : Nat} {x : ByteArray} (h : xs[j]? = some x) : (texts xs)[j]? = some (.string x) := by simp [texts, h]
open Go.Shelf in
shelf_lay Lays2.n22 Nm2 22 at Tryz as Tryz.layIns5
set_option maxHeartbeats 2000000 in
theorem insertOwn_any (w : World) (v : Value) (xs : List ByteArray) (s : ByteArray) (k vb lo : Nat) (ho : w.ownsRow lo 9 1 v xs.length (texts xs)) (hk : k ≤ xs.length) (hn : xs.length ≤ 1000) (hvb : w.heap[vb]? = some (.cells #[.string s] 9 (0, 0))) (hne : v.ownBlock ≠ some vb) (hlo : lo ≤ w.heap.size)
    (hf : ∀ x ∈ xs.take k ++ s :: xs.drop k, x.size ≤ maxLen) :
    Calls Tryz.prog 63 #[v, .int .i64 k, .slice (some ⟨vb, 0, none⟩) 1 1] w fun e w' => ∃ v', e = .returned v' ∧ InsR505 lo w' v' (xs.take k ++ s :: xs.drop k) ∧ Below lo w w' := by
  have hcv : ∀ j u, [Value.string s][j]? = some u → w.cell? ⟨vb, 0 + j, none⟩ = some u := fun j u hu => by
    rw [Nat.zero_add, cell_of_row w vb j _ _ _ hvb]; simpa using hu
  have hvl : vb < w.heap.size := (Array.getElem?_eq_some_iff.1 hvb).1
  have hone : ∀ u ∈ [Value.string s], u.oneCell' = true := one_text s
  have htl : (texts xs).length = xs.length := by simp [texts]
  have hend : ∀ (base : Option Addr) (c : Nat), k = xs.length → xs.length ≤ c → c < xs.length + 1 → (base = none → xs.length = 0) → (∀ a, base = some a → ∀ j u, (texts xs)[j]? = some u → w.cell? (a.add j) = some u) →
      Calls Tryz.prog 63 #[.slice base xs.length c, .int .i64 xs.length, .slice (some ⟨vb, 0, none⟩) 1 1] w fun e w' => ∃ v', e = .returned v' ∧ InsR505 lo w' v' (xs.take k ++ s :: xs.drop k) ∧ Below lo w w' := by
    intro base c hkn h1 h2 h3 h4
    have hcon := Any2.slices_Insert_string_end_grow Tryz.layIns5 base xs.length c vb 0 1 1 (texts xs) [.string s] w (by omega) h1 h2 (by omega) htl rfl h3 h4 hcv hone
    change Calls Tryz.prog 63 _ _ _ at hcon
    refine hcon.mono ?_
    rintro e w' ⟨rfl, rfl⟩
    have hge := grownCap_ge w (xs.length + 1) c 9
    have hle := grownCap_le_maxLen w (xs.length + 1) c 9 (by unfold maxLen; omega)
    have hrow := rowOf505 (heap_alloc_last w.drew (.cells ((texts xs ++ [Value.string s]).toArray ++ Builtin.zeroCells (Value.string ⟨#[]⟩).cells (grownCap w (xs.length + 1) c 9 - (xs.length + 1))) 9))
    refine ⟨_, rfl, insDone505 hrow hlo hk hge hle (by simp [texts]) (by show _ = grownCap w (xs.length + 1) c 9; rw [Array.size_append, size_zeroCells, List.size_toArray, List.length_append, htl, show (Value.string ⟨#[]⟩).cells.size = 1 from rfl]; simp; omega) (fun j x hj hx => ?_) ?_ (fun j x hj hx => ?_) hf, ((Below.refl _ _).drew).alloc hlo _⟩
    · have hj2 : j < xs.length := (List.getElem?_eq_some_iff.1 hx).1
      show (_ : Option Value).getD _ = _
      rw [Array.getElem?_append_left (by simp [texts]; omega), List.getElem?_toArray, List.getElem?_append_left (by omega), texts_at505 hx]; rfl
    · show (_ : Option Value).getD _ = _
      rw [Array.getElem?_append_left (by simp [texts]; omega), List.getElem?_toArray, List.getElem?_append_right (by omega), htl, hkn, Nat.sub_self]; rfl
    · have hj2 : j < xs.length := (List.getElem?_eq_some_iff.1 hx).1
      omega
  rcases ho.2 with ⟨rfl, h0⟩ | ⟨g, cap, cur, rfl, hg, hheap, hc1, hc2, hc3, hc4⟩
  · have := hend none 0 (by omega) (by omega) (by omega) (fun _ => h0) (fun a h => by cases h)
    rw [h0] at this
    have hk0 : k = 0 := by omega
    subst hk0
    exact this
  · have hgl : g < w.heap.size := (Array.getElem?_eq_some_iff.1 hheap).1
    have hgv : vb ≠ g := fun e => hne (by rw [e]; rfl)
    have hcell : ∀ j u, (texts xs)[j]? = some u → w.cell? ⟨g, 0 + j, none⟩ = some u := fun j u hu => by
      have hj : j < xs.length := by have := (List.getElem?_eq_some_iff.1 hu).1; rw [htl] at this; exact this
      rw [Nat.zero_add, ho.cellAt j (by omega), hu]
    have hadd : ∀ a, some (⟨g, 0, none⟩ : Addr) = some a → ∀ j u, (texts xs)[j]? = some u → w.cell? (a.add j) = some u := fun a ha j u hu => by
      cases ha
      rw [add_plain398]; exact hcell j u hu
    have hrow : w.rowIs g 9 cap (fun i => cur[i]?.getD (.bool false)) := by
      have := rowOf505 hheap
      rw [hc3, Nat.mul_one] at this
      exact this
    have hcur : ∀ (j : Nat) (x : ByteArray), xs[j]? = some x → cur[j]?.getD (Value.bool false) = Value.string x := fun j x hx => by
      have hj : j < xs.length := (List.getElem?_eq_some_iff.1 hx).1
      have e1 : (cur.toList.take (xs.length * 1))[j]? = some (.string x) := by rw [hc4]; exact texts_at505 hx
      rw [List.getElem?_take_of_lt (by omega), Array.getElem?_toList] at e1
      rw [e1]; rfl
    have hsome : ∀ j, j < cap → (w.cell? ⟨g, j, none⟩).isSome = true := fun j hj => by rw [hrow.cell hj]; rfl
    have hfz : ∀ j, w.frozen? ⟨g, j, none⟩ = false := fun j => ho.frozenAt j
    by_cases hroom : xs.length + 1 ≤ cap
    · by_cases hkn : k = xs.length
      · have hcon := Any2.slices_Insert_string_end_room Tryz.layIns5 g 0 xs.length cap vb 0 1 1 [.string s] w (by omega) hroom (by unfold maxLen at hc2; omega) rfl (fun j hj => hsome _ (by omega)) (fun j hj => hfz _) hcv hone
        change Calls Tryz.prog 63 _ _ _ at hcon
        rw [hkn]
        refine hcon.mono ?_
        rintro e w' ⟨rfl, rfl⟩
        obtain ⟨f', r1, r2, r3⟩ := rowIs_cells505 [Value.string s] (0 + xs.length) w _ hrow
        refine ⟨_, rfl, insDone505 r1 hg (Nat.le_refl _) hroom hc2 hroom rfl (fun j x hj hx => ?_) ?_ (fun j x hj hx => ?_) (by rw [← hkn]; exact hf), below_cells505 hg _ _ _ (Below.refl _ _)⟩
        · rw [r3 j (Or.inl (by omega))]; exact hcur j x hx
        · have := r2 0 _ rfl
          rw [Nat.add_zero, Nat.zero_add] at this
          exact this
        · have hj2 : j < xs.length := (List.getElem?_eq_some_iff.1 hx).1
          omega
      · have hs1 : w.shape? vb = some (9, 1) := by simp [World.shape?, hvb]
        have hs2 : w.shape? g = some (9, cap) := by simp [World.shape?, hheap, hc3]
        have hz1 : ∀ j, w.frozen? ⟨vb, j, none⟩ = false := fun j => by simp [World.frozen?, hvb]
        have hcon := Any2.slices_Insert_string_shift Tryz.layIns5 g 0 xs.length cap k vb 0 1 1 (texts xs) [.string s] w (by omega) (by omega) hroom (by unfold maxLen at hc2; omega) hgv htl rfl hcell (fun j hj => hsome _ (by omega)) (fun j hj => hfz _) hcv (texts_one405 xs) hone _ _ _ _ hs1 hs2 (by omega) (hz1 _) (hz1 _)
        change Calls Tryz.prog 63 _ _ _ at hcon
        refine hcon.mono ?_
        rintro e w' ⟨rfl, rfl⟩
        have hrow2 : w.drew.rowIs g 9 cap (fun i => cur[i]?.getD (.bool false)) := hrow
        obtain ⟨f1, q1, q2, q3⟩ := rowIs_cells505 ((texts xs).drop k) (0 + (k + 1)) w.drew _ hrow2
        obtain ⟨f2, r1, r2, r3⟩ := rowIs_cells505 [Value.string s] (0 + k) _ _ q1
        have hdl : ((texts xs).drop k).length = xs.length - k := by rw [List.length_drop, htl]
        refine ⟨_, rfl, insDone505 r1 hg hk hroom hc2 hroom rfl (fun j x hj hx => ?_) ?_ (fun j x hj hx => ?_) hf, below_cells505 hg _ _ _ (below_cells505 hg _ _ _ (Below.refl _ _).drew)⟩
        · rw [r3 j (Or.inl (by omega)), q3 j (Or.inl (by omega))]; exact hcur j x hx
        · have := r2 0 _ rfl
          rw [Nat.add_zero, Nat.zero_add] at this
          exact this
        · rw [r3 (j + 1) (Or.inr (by simp; omega))]
          have := q2 (j - k) (.string x) (by rw [List.getElem?_drop, show k + (j - k) = j by omega]; exact texts_at505 hx)
          rw [show 0 + (k + 1) + (j - k) = j + 1 by omega] at this
          exact this
    · by_cases hkn : k = xs.length
      · have := hend (some ⟨g, 0, none⟩) cap hkn hc1 (by omega) (fun h => by cases h) hadd
        rw [← hkn] at this
        rw [hkn] at this ⊢
        exact this
      · have hcon := Any2.slices_Insert_string_grow Tryz.layIns5 g 0 xs.length cap k vb 0 1 1 (texts xs) [.string s] w (by omega) (by omega) hc1 (by omega) (by omega) htl rfl hcell hcv (texts_one405 xs) hone
        change Calls Tryz.prog 63 _ _ _ at hcon
        refine hcon.mono ?_
        rintro e w' ⟨rfl, rfl⟩
        have hge := grownCap_ge w (xs.length + 1) cap 9
        have hle := grownCap_le_maxLen w (xs.length + 1) cap 9 (by unfold maxLen; omega)
        have h0 := rowOf505 (heap_alloc_last w (.cells (((texts xs).take k).toArray ++ Builtin.zeroCells (Value.string ⟨#[]⟩).cells (xs.length + 1 - k) ++ Builtin.zeroCells (Value.string ⟨#[]⟩).cells (grownCap w (xs.length + 1) cap 9 - (xs.length + 1))) 9))
        obtain ⟨f1, q1, q2, q3⟩ := rowIs_cells505 [Value.string s] k _ _ (rowIs_drew505 h0)
        obtain ⟨f2, r1, r2, r3⟩ := rowIs_cells505 ((texts xs).drop k) (k + 1) _ _ (rowIs_drew505 q1)
        have hdl : ((texts xs).drop k).length = xs.length - k := by rw [List.length_drop, htl]
        refine ⟨_, rfl, insDone505 r1 hlo hk hge hle ?_ ?_ (fun j x hj hx => ?_) ?_ (fun j x hj hx => ?_) hf, below_cells505 hlo _ _ _ (Below.drew (below_cells505 hlo _ _ _ (Below.drew ((Below.refl _ _).alloc hlo _))))⟩
        · rw [Array.size_append, Array.size_append, size_zeroCells, List.size_toArray, List.length_take, htl]
          have e1 : (Value.string ⟨#[]⟩).cells.size = 1 := rfl
          rw [e1]; omega
        · show _ = grownCap w (xs.length + 1) cap 9
          rw [Array.size_append, Array.size_append, size_zeroCells, size_zeroCells, List.size_toArray, List.length_take, htl]
          have e1 : (Value.string ⟨#[]⟩).cells.size = 1 := rfl
          rw [e1]; omega
        · rw [r3 j (Or.inl (by omega)), q3 j (Or.inl (by omega))]
          show (_ : Option Value).getD _ = _
          rw [Array.append_assoc, Array.getElem?_append_left (by rw [List.size_toArray, List.length_take, htl]; omega), List.getElem?_toArray, List.getElem?_take_of_lt hj, texts_at505 hx]; rfl
        · rw [r3 k (Or.inl (by omega))]
          have := q2 0 _ rfl
          rw [Nat.add_zero] at this
          exact this
        · have := r2 (j - k) (.string x) (by rw [List.getElem?_drop, show k + (j - k) = j by omega]; exact texts_at505 hx)
          rw [show k + 1 + (j - k) = j + 1 by omega] at this
          exact this
end Go.Proofs.YtcmajekdalcjeaaGreat
