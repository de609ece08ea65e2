/-
  What changes from a book to another one: impl.DeltaOf.
-/
import Derived.Test.YtbbepdmogkadeaaW129
import Derived.Test.YtbbepdmogkadeaaW114
import Derived.Test.YtbbepdmogkadeaaW145
import Derived.Test.YtbbepdmogkadeaaW76
namespace Go.Proofs.Ytbbepdmogkadeaa
open Go.RowKit
set_option linter.unusedVariables false
def goesF (eb : List (ByteArray × ByteArray)) (e : ByteArray × ByteArray) : Bool := !(eb.any fun f => f.1.toList == e.1.toList)
def goesOf (ea eb : List (ByteArray × ByteArray)) : List ByteArray := (ea.filter (goesF eb)).map (·.1)
def comesF (ea : List (ByteArray × ByteArray)) (e : ByteArray × ByteArray) : Bool := !entIn ea e
def comesOf (ea eb : List (ByteArray × ByteArray)) : List (ByteArray × ByteArray) := eb.filter (comesF ea)
/-- What DeltaOf answers. -/
def dofT (xa : List Aff) (ea : List (ByteArray × ByteArray)) (xb : List Aff) (eb : List (ByteArray × ByteArray)) : DeltaM :=
  if bookT xa ea && bookT xb eb then (goesOf ea eb, comesOf ea eb, !affsEq xa xb, if affsEq xa xb then [] else xb) else ([], [], false, [])
theorem goes_take {ea eb : List (ByteArray × ByteArray)} {k : Nat} {x : ByteArray × ByteArray} (hx : ea[k]? = some x) : goesOf (ea.take (k + 1)) eb = goesOf (ea.take k) eb ++ if goesF eb x then [x.1] else [] := by
  unfold goesOf
  rw [List.take_add_one, hx, List.filter_append, List.map_append]
  congr 1
  simp only [Option.toList_some, List.filter_cons, List.filter_nil]
  split <;> rfl
theorem comes_take {ea eb : List (ByteArray × ByteArray)} {k : Nat} {x : ByteArray × ByteArray} (hx : eb[k]? = some x) : comesOf ea (eb.take (k + 1)) = comesOf ea (eb.take k) ++ if comesF ea x then [x] else [] := by
  unfold comesOf
  rw [List.take_add_one, hx, List.filter_append]
  congr 1
  simp only [Option.toList_some, List.filter_cons, List.filter_nil]
theorem goes_len (ea eb : List (ByteArray × ByteArray)) (k : Nat) : (goesOf (ea.take k) eb).length ≤ ea.length := by
  unfold goesOf
  rw [List.length_map]
  exact Nat.le_trans (List.length_filter_le _ _) (List.length_take_le' _ _)
theorem comes_len (ea eb : List (ByteArray × ByteArray)) (k : Nat) : (comesOf ea (eb.take k)).length ≤ eb.length := Nat.le_trans (List.length_filter_le _ _) (List.length_take_le' _ _)
/-- A change's variable. -/
theorem DRow.grown {w w' : World} {b : Nat} {v0 v1 v3 : Value} {af : Bool} {row : Option Nat} (h : DRow w b v0 v1 af v3) (hg : w.grownBy w' row) (hne : some b ≠ row) : DRow w' b v0 v1 af v3 := World.rowIs.of_block h (hg.block b (World.rowIs.lt h) hne)
theorem DRow.alloc {w : World} {b : Nat} {v0 v1 v3 : Value} {af : Bool} (h : DRow w b v0 v1 af v3) (o : Obj) : DRow (w.alloc o) b v0 v1 af v3 := h.grown (World.grownBy_alloc w o none) (by simp)
theorem DRow.set0 {w : World} {b : Nat} {v0 v1 v3 : Value} {af : Bool} (h : DRow w b v0 v1 af v3) (u : Value) : DRow (w.setCell ⟨b, 0, none⟩ u) b u v1 af v3 := (World.rowIs.set h 0 u).congr fun i hi => by
  match i, hi with
  | 0, _ => rfl
  | 1, _ => rfl
  | 2, _ => rfl
  | 3, _ => rfl
theorem DRow.set1 {w : World} {b : Nat} {v0 v1 v3 : Value} {af : Bool} (h : DRow w b v0 v1 af v3) (u : Value) : DRow (w.setCell ⟨b, 1, none⟩ u) b v0 u af v3 := (World.rowIs.set h 1 u).congr fun i hi => by
  match i, hi with
  | 0, _ => rfl
  | 1, _ => rfl
  | 2, _ => rfl
  | 3, _ => rfl
theorem DRow.set2 {w : World} {b : Nat} {v0 v1 v3 : Value} {af : Bool} (h : DRow w b v0 v1 af v3) (u : Bool) : DRow (w.setCell ⟨b, 2, none⟩ (.bool u)) b v0 v1 u v3 := (World.rowIs.set h 2 (.bool u)).congr fun i hi => by
  match i, hi with
  | 0, _ => rfl
  | 1, _ => rfl
  | 2, _ => rfl
  | 3, _ => rfl
theorem DRow.set3 {w : World} {b : Nat} {v0 v1 v3 : Value} {af : Bool} (h : DRow w b v0 v1 af v3) (u : Value) : DRow (w.setCell ⟨b, 3, none⟩ u) b v0 v1 af u := (World.rowIs.set h 3 u).congr fun i hi => by
  match i, hi with
  | 0, _ => rfl
  | 1, _ => rfl
  | 2, _ => rfl
  | 3, _ => rfl
theorem DRow.other {w : World} {b : Nat} {v0 v1 v3 : Value} {af : Bool} (h : DRow w b v0 v1 af v3) {p : Addr} (hp : b ≠ p.block) (u : Value) : DRow (w.setCell p u) b v0 v1 af v3 := rowIs_other h hp u
theorem DRow.fz {w : World} {b : Nat} {v0 v1 v3 : Value} {af : Bool} (h : DRow w b v0 v1 af v3) (i : Nat) : w.frozen? ⟨b, i, none⟩ = false := World.rowIs.frozen h i
/-- The three lists of a change, each a row of its own. -/
def DRows (lo : Nat) (w : World) (v0 v1 v3 : Value) (gs : List ByteArray) (es : List (ByteArray × ByteArray)) (xs : List Aff) : Prop :=
  w.ownsRow lo 9 1 v0 gs.length (texts gs) ∧ w.ownsRow lo 47 2 v1 es.length (entCells es) ∧ w.ownsRow lo 53 5 v3 xs.length (affCells xs)
theorem DRows.below {lo : Nat} {w w' : World} {v0 v1 v3 : Value} {gs : List ByteArray} {es : List (ByteArray × ByteArray)} {xs : List Aff} (h : DRows lo w v0 v1 v3 gs es xs) (hb : Below w.heap.size w w') : DRows lo w' v0 v1 v3 gs es xs := ⟨owns_below h.1 hb, owns_below h.2.1 hb, owns_below h.2.2 hb⟩
theorem DRows.set {lo : Nat} {w : World} {v0 v1 v3 : Value} {gs : List ByteArray} {es : List (ByteArray × ByteArray)} {xs : List Aff} (h : DRows lo w v0 v1 v3 gs es xs) (b o : Nat) (u : Value) (hb : b < lo) : DRows lo (w.setCell ⟨b, o, none⟩ u) v0 v1 v3 gs es xs := ⟨owns_set h.1 b o u hb, owns_set h.2.1 b o u hb, owns_set h.2.2 b o u hb⟩
theorem DRows.low {lo lo' : Nat} {w : World} {v0 v1 v3 : Value} {gs : List ByteArray} {es : List (ByteArray × ByteArray)} {xs : List Aff} (h : DRows lo w v0 v1 v3 gs es xs) (hl : lo' ≤ lo) : DRows lo' w v0 v1 v3 gs es xs := ⟨owns_lower h.1 hl, owns_lower h.2.1 hl, owns_lower h.2.2 hl⟩
theorem DRows.own {lo : Nat} {w : World} {v0 v1 v3 : Value} {gs : List ByteArray} {es : List (ByteArray × ByteArray)} {xs : List Aff} (h : DRows lo w v0 v1 v3 gs es xs) (af : Bool) (hg : ∀ (i : Nat) (x : ByteArray), gs[i]? = some x → x.size ≤ maxLen) (he : ∀ (i : Nat) (x : ByteArray × ByteArray), es[i]? = some x → x.1.size ≤ maxLen ∧ x.2.size ≤ maxLen) (hx : ∀ (i : Nat) (x : Aff), xs[i]? = some x → x.fits) :
    DeltaOwn lo w.heap.size w (.agg #[v0, v1, .bool af, v3]) (gs, es, af, xs) := by
  refine ⟨v0, v1, v3, rfl, ⟨rowOwn_of_owns h.1 fun f hf j x hj hx => hf j _ (by simp [texts, hx]), hg⟩, ⟨rowOwn_of_owns h.2.1 fun f hf j x hj hx => ?_, he⟩, ⟨rowOwn_of_owns h.2.2 fun f hf j x hj hx => ?_, hx⟩⟩
  · have := entCells_at es j x hx
    exact ⟨hf _ _ this.1, hf _ _ this.2⟩
  · have k : ∀ i, i < 5 → (affCells xs)[j * 5 + i]? = x.cells[i]? := fun i hi => affCells_at xs j i x hx hi
    exact ⟨hf _ _ (k 0 (by omega)), hf _ _ (k 1 (by omega)), hf _ _ (k 2 (by omega)), hf _ _ (k 3 (by omega)), hf _ _ (k 4 (by omega))⟩
theorem news_affs {W : World} {xs : List Aff} {b off n cap : Nat} (h : AffsAt W (.slice (some ⟨b, off, none⟩) n cap) xs) : ∀ j u, (affCells xs)[j]? = some u → W.cell? ((⟨b, off, none⟩ : Addr).add j) = some u := by
  intro j u hu
  have hj : j < xs.length * 5 := by have := (List.getElem?_eq_some_iff.1 hu).1; rwa [affCells_length] at this
  have hi : j / 5 < xs.length := by omega
  obtain ⟨b', off', cap', x, hv, _, hx, _, h0, h1, h2, h3, h4⟩ := h.at hi
  cases hv
  have hc := affCells_at xs (j / 5) (j % 5) x hx (by omega)
  rw [show j / 5 * 5 + j % 5 = j by omega, hu] at hc
  rw [add_zero_at, show off + j = off + j / 5 * 5 + j % 5 by omega]
  have h5 : j % 5 < 5 := by omega
  generalize j % 5 = m at *
  match m, h5 with
  | 0, _ => rw [Nat.add_zero, h0, hc]; rfl
  | 1, _ => rw [h1, hc]; rfl
  | 2, _ => rw [h2, hc]; rfl
  | 3, _ => rw [h3, hc]; rfl
  | 4, _ => rw [h4, hc]; rfl
theorem affCells_one' (xs : List Aff) : ∀ u ∈ affCells xs, u.oneCell' = true := by
  intro u hu
  simp only [affCells, List.mem_flatMap, Aff.cells] at hu
  obtain ⟨a, _, hu⟩ := hu
  simp at hu
  rcases hu with rfl | rfl | rfl | rfl | rfl <;> rfl
theorem Try.info_aff146 : (Try.prog.info? 53).map (fun i => (i.zero, i.size, i.bytes)) = some (some (.agg #[.string ⟨#[]⟩, .bool false, .string ⟨#[]⟩, .string ⟨#[]⟩, .string ⟨#[]⟩]), 5, 72) := by kernel_rfl
theorem Try.info_ent146 : (Try.prog.info? 47).map (fun i => (i.zero, i.size, i.bytes)) = some (some (.agg #[.string ⟨#[]⟩, .string ⟨#[]⟩]), 2, 32) := by kernel_rfl
theorem Try.info_str146 : (Try.prog.info? 9).map (fun i => (i.zero, i.size, i.bytes)) = some (some (.string ⟨#[]⟩), 1, 16) := by kernel_rfl
set_option maxHeartbeats 1000000 in
theorem copyOfA_any (w : World) (v : Value) (xs : List Aff) (h : AffsAt w v xs) (hn : xs.length ≤ 1000) :
    Calls Try.prog 24 #[v] w fun e w' => ∃ v', e = .returned v' ∧ w'.ownsRow w.heap.size 53 5 v' xs.length (affCells xs) ∧ Below w.heap.size w w' := by
  obtain ⟨a, cap, rfl, hc, hm⟩ := h.form
  have HS : Hid (AffsAt w (.slice a xs.length cap) xs) := h
  clear h
  unfold maxLen at hm
  obtain ⟨i3, hi3, hz3, hs3, hb3⟩ := info_parts Try.info_aff146
  by_cases h0 : xs = []
  · subst h0
    have hl : ([] : List Aff).length = 0 := rfl
    rw [hl]
    cases a with
    | none =>
      go_enter Try.func24, Try.ntmps24
      go_wp2
      go_ret
      exact ⟨_, rfl, World.ownsRow_nil _ _ _ _, Below.refl _ _⟩
    | some ad =>
      go_enter Try.func24, Try.ntmps24
      go_wp2
      go_ret
      exact ⟨_, rfl, World.ownsRow_nil _ _ _ _, Below.refl _ _⟩
  · obtain ⟨b, off, cap1, x, hv, hbl, hx, _, _⟩ := HS.out.at (k := 0) (by cases xs with | nil => exact absurd rfl h0 | cons _ _ => simp)
    cases hv
    clear hx
    go_enter Try.func24, Try.ntmps24
    go_wp2_with (at_builtin; refine wpList_append_own _ rfl _ _ 29 rfl w.heap.size 53 i3 (.agg #[.string ⟨#[]⟩, .bool false, .string ⟨#[]⟩, .string ⟨#[]⟩, .string ⟨#[]⟩]) 5 72 Try.underlying29 hi3 hz3 hs3 hb3 rfl (by decide) (.slice none 0 0) 0 [] rfl (World.ownsRow_nil _ _ _ _) ⟨b, off, none⟩ xs.length cap (affCells xs) rfl (affCells_length xs) (news_affs HS.out) (affCells_one' xs) (by unfold maxLen; omega) (by omega) (Nat.le_refl _) ?_; intro v1 w1 hown hgrow hnil; have HB1 : Hid (Below w.heap.size w w1) := below_of_grown hgrow (fun k hk => by cases hk) (Nat.le_refl _); have HO : Hid (w1.ownsRow w.heap.size 53 5 v1 xs.length (affCells xs)) := (by rw [Nat.zero_add, List.nil_append] at hown; exact hown); clear hown hgrow hnil)
    go_ret
    exact ⟨_, rfl, HO.out, HB1.out⟩
end Go.Proofs.Ytbbepdmogkadeaa
