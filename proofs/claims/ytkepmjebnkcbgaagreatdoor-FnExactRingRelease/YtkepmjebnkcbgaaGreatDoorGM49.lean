/-
  What changes from a book to another one: impl.DeltaOf.
-/
import Derived.Test.YtkepmjebnkcbgaaGreatDoorGW213
import Derived.Test.YtkepmjebnkcbgaaGreatDoorGW116
import Derived.Test.YtkepmjebnkcbgaaGreatDoorW145
import Derived.Test.YtkepmjebnkcbgaaGreatDoorGW78
namespace Go.Proofs.YtkepmjebnkcbgaaGreatDoor
open Go.RowKit
set_option linter.unusedVariables false
def goesF (eb : List (ByteArray × ByteArray)) (e : ByteArray × ByteArray) : Bool := !(eb.any fun f => f.1.toList == e.1.toList)
def goesOf (ea eb : List (ByteArray × ByteArray)) : List ByteArray := (ea.filter (goesF eb)).map (·.1)
def comesF (ea : List (ByteArray × ByteArray)) (e : ByteArray × ByteArray) : Bool := !entIn ea e
def comesOf (ea eb : List (ByteArray × ByteArray)) : List (ByteArray × ByteArray) := eb.filter (comesF ea)
/-- What DeltaOf answers. -/
def dofT (xa : List Aff) (ea : List (ByteArray × ByteArray)) (xb : List Aff) (eb : List (ByteArray × ByteArray)) : DeltaM :=
  if bookT xa ea && bookT xb eb then (goesOf ea eb, comesOf ea eb, !affsEq xa xb, if affsEq xa xb then [] else xb) else ([], [], false, [])
theorem goes_take {ea eb : List (ByteArray × ByteArray)} {k : Nat} {x : ByteArray × ByteArray} (hx : ea[k]? = some x) : goesOf (ea.take (k + 1)) eb = goesOf (ea.take k) eb ++ if goesF eb x then [x.1] else [] := by
  unfold goesOf
  rw [List.take_add_one, hx, List.filter_append, List.map_append]
  congr 1
  simp only [Option.toList_some, List.filter_cons, List.filter_nil]
  split <;> rfl
theorem comes_take {ea eb : List (ByteArray × ByteArray)} {k : Nat} {x : ByteArray × ByteArray} (hx : eb[k]? = some x) : comesOf ea (eb.take (k + 1)) = comesOf ea (eb.take k) ++ if comesF ea x then [x] else [] := by
  unfold comesOf
  rw [List.take_add_one, hx, List.filter_append]
  congr 1
  simp only [Option.toList_some, List.filter_cons, List.filter_nil]
theorem goes_len (ea eb : List (ByteArray × ByteArray)) (k : Nat) : (goesOf (ea.take k) eb).length ≤ ea.length := by
  unfold goesOf
  rw [List.length_map]
  exact Nat.le_trans (List.length_filter_le _ _) (List.length_take_le' _ _)
theorem comes_len (ea eb : List (ByteArray × ByteArray)) (k : Nat) : (comesOf ea (eb.take k)).length ≤ eb.length := Nat.le_trans (List.length_filter_le _ _) (List.length_take_le' _ _)
/-- A change's variable. -/
theorem DRow.grown {w w' : World} {b : Nat} {v0 v1 v3 : Value} {af : Bool} {row : Option Nat} (h : DRow w b v0 v1 af v3) (hg : w.grownBy w' row) (hne : some b ≠ row) : DRow w' b v0 v1 af v3 := World.rowIs.of_block h (hg.block b (World.rowIs.lt h) hne)
theorem DRow.alloc {w : World} {b : Nat} {v0 v1 v3 : Value} {af : Bool} (h : DRow w b v0 v1 af v3) (o : Obj) : DRow (w.alloc o) b v0 v1 af v3 := h.grown (World.grownBy_alloc w o none) (by simp)
theorem DRow.set0 {w : World} {b : Nat} {v0 v1 v3 : Value} {af : Bool} (h : DRow w b v0 v1 af v3) (u : Value) : DRow (w.setCell ⟨b, 0, none⟩ u) b u v1 af v3 := (World.rowIs.set h 0 u).congr fun i hi => by
  match i, hi with
  | 0, _ => rfl
  | 1, _ => rfl
  | 2, _ => rfl
  | 3, _ => rfl
theorem DRow.set1 {w : World} {b : Nat} {v0 v1 v3 : Value} {af : Bool} (h : DRow w b v0 v1 af v3) (u : Value) : DRow (w.setCell ⟨b, 1, none⟩ u) b v0 u af v3 := (World.rowIs.set h 1 u).congr fun i hi => by
  match i, hi with
  | 0, _ => rfl
  | 1, _ => rfl
  | 2, _ => rfl
  | 3, _ => rfl
theorem DRow.set2 {w : World} {b : Nat} {v0 v1 v3 : Value} {af : Bool} (h : DRow w b v0 v1 af v3) (u : Bool) : DRow (w.setCell ⟨b, 2, none⟩ (.bool u)) b v0 v1 u v3 := (World.rowIs.set h 2 (.bool u)).congr fun i hi => by
  match i, hi with
  | 0, _ => rfl
  | 1, _ => rfl
  | 2, _ => rfl
  | 3, _ => rfl
theorem DRow.set3 {w : World} {b : Nat} {v0 v1 v3 : Value} {af : Bool} (h : DRow w b v0 v1 af v3) (u : Value) : DRow (w.setCell ⟨b, 3, none⟩ u) b v0 v1 af u := (World.rowIs.set h 3 u).congr fun i hi => by
  match i, hi with
  | 0, _ => rfl
  | 1, _ => rfl
  | 2, _ => rfl
  | 3, _ => rfl
theorem DRow.other {w : World} {b : Nat} {v0 v1 v3 : Value} {af : Bool} (h : DRow w b v0 v1 af v3) {p : Addr} (hp : b ≠ p.block) (u : Value) : DRow (w.setCell p u) b v0 v1 af v3 := rowIs_other h hp u
theorem DRow.fz {w : World} {b : Nat} {v0 v1 v3 : Value} {af : Bool} (h : DRow w b v0 v1 af v3) (i : Nat) : w.frozen? ⟨b, i, none⟩ = false := World.rowIs.frozen h i
/-- The three lists of a change, each a row of its own. -/
def DRows (lo : Nat) (w : World) (v0 v1 v3 : Value) (gs : List ByteArray) (es : List (ByteArray × ByteArray)) (xs : List Aff) : Prop :=
  w.ownsRow lo 9 1 v0 gs.length (texts gs) ∧ w.ownsRow lo 89 2 v1 es.length (entCells es) ∧ w.ownsRow lo 87 5 v3 xs.length (affCells xs)
theorem DRows.below {lo : Nat} {w w' : World} {v0 v1 v3 : Value} {gs : List ByteArray} {es : List (ByteArray × ByteArray)} {xs : List Aff} (h : DRows lo w v0 v1 v3 gs es xs) (hb : Below w.heap.size w w') : DRows lo w' v0 v1 v3 gs es xs := ⟨owns_below h.1 hb, owns_below h.2.1 hb, owns_below h.2.2 hb⟩
theorem DRows.set {lo : Nat} {w : World} {v0 v1 v3 : Value} {gs : List ByteArray} {es : List (ByteArray × ByteArray)} {xs : List Aff} (h : DRows lo w v0 v1 v3 gs es xs) (b o : Nat) (u : Value) (hb : b < lo) : DRows lo (w.setCell ⟨b, o, none⟩ u) v0 v1 v3 gs es xs := ⟨owns_set h.1 b o u hb, owns_set h.2.1 b o u hb, owns_set h.2.2 b o u hb⟩
theorem DRows.low {lo lo' : Nat} {w : World} {v0 v1 v3 : Value} {gs : List ByteArray} {es : List (ByteArray × ByteArray)} {xs : List Aff} (h : DRows lo w v0 v1 v3 gs es xs) (hl : lo' ≤ lo) : DRows lo' w v0 v1 v3 gs es xs := ⟨owns_lower h.1 hl, owns_lower h.2.1 hl, owns_lower h.2.2 hl⟩
theorem DRows.own {lo : Nat} {w : World} {v0 v1 v3 : Value} {gs : List ByteArray} {es : List (ByteArray × ByteArray)} {xs : List Aff} (h : DRows lo w v0 v1 v3 gs es xs) (af : Bool) (hg : ∀ (i : Nat) (x : ByteArray), gs[i]? = some x → x.size ≤ maxLen) (he : ∀ (i : Nat) (x : ByteArray × ByteArray), es[i]? = some x → x.1.size ≤ maxLen ∧ x.2.size ≤ maxLen) (hx : ∀ (i : Nat) (x : Aff), xs[i]? = some x → x.fits) :
    DeltaOwn lo w.heap.size w (.agg #[v0, v1, .bool af, v3]) (gs, es, af, xs) := by
  refine ⟨v0, v1, v3, rfl, ⟨rowOwn_of_owns h.1 fun f hf j x hj hx => hf j _ (by simp [texts, hx]), hg⟩, ⟨rowOwn_of_owns h.2.1 fun f hf j x hj hx => ?_, he⟩, ⟨rowOwn_of_owns h.2.2 fun f hf j x hj hx => ?_, hx⟩⟩
  · have := entCells_at es j x hx
    exact ⟨hf _ _ this.1, hf _ _ this.2⟩
  · have k : ∀ i, i < 5 → (affCells xs)[j * 5 + i]? = x.cells[i]? := fun i hi => affCells_at xs j i x hx hi
    exact ⟨hf _ _ (k 0 (by omega)), hf _ _ (k 1 (by omega)), hf _ _ (k 2 (by omega)), hf _ _ (k 3 (by omega)), hf _ _ (k 4 (by omega))⟩
theorem news_affs {W : World} {xs : List Aff} {b off n cap : Nat} (h : AffsAt W (.slice (some ⟨b, off, none⟩) n cap) xs) : ∀ j u, (affCells xs)[j]? = some u → W.cell? ((⟨b, off, none⟩ : Addr).add j) = some u := by
  intro j u hu
  have hj : j < xs.length * 5 := by have := (List.getElem?_eq_some_iff.1 hu).1; rwa [affCells_length] at this
  have hi : j / 5 < xs.length := by omega
  obtain ⟨b', off', cap', x, hv, _, hx, _, h0, h1, h2, h3, h4⟩ := h.at hi
  cases hv
  have hc := affCells_at xs (j / 5) (j % 5) x hx (by omega)
  rw [show j / 5 * 5 + j % 5 = j by omega, hu] at hc
  rw [add_zero_at, show off + j = off + j / 5 * 5 + j % 5 by omega]
  have h5 : j % 5 < 5 := by omega
  generalize j % 5 = m at *
  match m, h5 with
  | 0, _ => rw [Nat.add_zero, h0, hc]; rfl
  | 1, _ => rw [h1, hc]; rfl
  | 2, _ => rw [h2, hc]; rfl
  | 3, _ => rw [h3, hc]; rfl
  | 4, _ => rw [h4, hc]; rfl
theorem affCells_one' (xs : List Aff) : ∀ u ∈ affCells xs, u.oneCell' = true := by
  intro u hu
  simp only [affCells, List.mem_flatMap, Aff.cells] at hu
  obtain ⟨a, _, hu⟩ := hu
  simp at hu
  rcases hu with rfl | rfl | rfl | rfl | rfl <;> rfl
theorem Tryz.info_aff146 : (Tryz.prog.info? 87).map (fun i => (i.zero, i.size, i.bytes)) = some (some (.agg #[.string ⟨#[]⟩, .bool false, .string ⟨#[]⟩, .string ⟨#[]⟩, .string ⟨#[]⟩]), 5, 72) := by kernel_rfl
theorem Tryz.info_ent146 : (Tryz.prog.info? 89).map (fun i => (i.zero, i.size, i.bytes)) = some (some (.agg #[.string ⟨#[]⟩, .string ⟨#[]⟩]), 2, 32) := by kernel_rfl
theorem Tryz.info_str146 : (Tryz.prog.info? 9).map (fun i => (i.zero, i.size, i.bytes)) = some (some (.string ⟨#[]⟩), 1, 16) := by kernel_rfl
set_option maxHeartbeats 1000000 in
theorem copyOfA_any (w : World) (v : Value) (xs : List Aff) (h : AffsAt w v xs) (hn : xs.length ≤ 1000) :
    Calls Tryz.prog 88 #[v] w fun e w' => ∃ v', e = .returned v' ∧ w'.ownsRow w.heap.size 87 5 v' xs.length (affCells xs) ∧ Below w.heap.size w w' := by
  obtain ⟨a, cap, rfl, hc, hm⟩ := h.form
  have HS : Hid (AffsAt w (.slice a xs.length cap) xs) := h
  clear h
  unfold maxLen at hm
  obtain ⟨i3, hi3, hz3, hs3, hb3⟩ := info_parts Tryz.info_aff146
  by_cases h0 : xs = []
  · subst h0
    have hl : ([] : List Aff).length = 0 := rfl
    rw [hl]
    cases a with
    | none =>
      go_enter Tryz.func88, Tryz.ntmps88
      go_wp2
      go_ret
      exact ⟨_, rfl, World.ownsRow_nil _ _ _ _, Below.refl _ _⟩
    | some ad =>
      go_enter Tryz.func88, Tryz.ntmps88
      go_wp2
      go_ret
      exact ⟨_, rfl, World.ownsRow_nil _ _ _ _, Below.refl _ _⟩
  · obtain ⟨b, off, cap1, x, hv, hbl, hx, _, _⟩ := HS.out.at (k := 0) (by cases xs with | nil => exact absurd rfl h0 | cons _ _ => simp)
    cases hv
    clear hx
    go_enter Tryz.func88, Tryz.ntmps88
    go_wp2_with (at_builtin; refine wpList_append_own _ rfl _ _ 33 rfl w.heap.size 87 i3 (.agg #[.string ⟨#[]⟩, .bool false, .string ⟨#[]⟩, .string ⟨#[]⟩, .string ⟨#[]⟩]) 5 72 Tryz.underlying33 hi3 hz3 hs3 hb3 rfl (by decide) (.slice none 0 0) 0 [] rfl (World.ownsRow_nil _ _ _ _) ⟨b, off, none⟩ xs.length cap (affCells xs) rfl (affCells_length xs) (news_affs HS.out) (affCells_one' xs) (by unfold maxLen; omega) (by omega) (Nat.le_refl _) ?_; intro v1 w1 hown hgrow hnil; have HB1 : Hid (Below w.heap.size w w1) := below_of_grown hgrow (fun k hk => by cases hk) (Nat.le_refl _); have HO : Hid (w1.ownsRow w.heap.size 87 5 v1 xs.length (affCells xs)) := (by rw [Nat.zero_add, List.nil_append] at hown; exact hown); clear hown hgrow hnil)
    go_ret
    exact ⟨_, rfl, HO.out, HB1.out⟩
end Go.Proofs.YtkepmjebnkcbgaaGreatDoor
/-
  impl.DeltaOf.
-/
namespace Go.Proofs.YtkepmjebnkcbgaaGreatDoor
open Go.RowKit
set_option linter.unusedVariables false
theorem bookT_parts {xs : List Aff} {es : List (ByteArray × ByteArray)} (h : bookT xs es = true) : affsT xs = true ∧ entsT es = true := by
  simpa [bookT] using h
theorem affsT_len {xs : List Aff} (h : affsT xs = true) : xs.length ≤ 8 := by
  simp only [affsT, Bool.and_eq_true, decide_eq_true_eq] at h
  exact h.1
theorem nil_own (lo : Nat) (w : World) (hi : Nat) (af : Bool) : DeltaOwn lo hi w (.agg #[.slice none 0 0, .slice none 0 0, .bool af, .slice none 0 0]) ([], [], af, []) :=
  ⟨_, _, _, rfl, ⟨⟨none, 0, rfl, Nat.le_refl _, Nat.zero_le _, fun hn => absurd rfl hn⟩, fun i x hx => by simp at hx⟩, ⟨⟨none, 0, rfl, Nat.le_refl _, Nat.zero_le _, fun hn => absurd rfl hn⟩, fun i x hx => by simp at hx⟩, ⟨⟨none, 0, rfl, Nat.le_refl _, Nat.zero_le _, fun hn => absurd rfl hn⟩, fun i x hx => by simp at hx⟩⟩
set_option maxRecDepth 100000 in
set_option maxHeartbeats 4000000 in
theorem implDeltaOf_any (w : World) (va ve ua ue : Value) (xa : List Aff) (ea : List (ByteArray × ByteArray)) (xb : List Aff) (eb : List (ByteArray × ByteArray)) (ha : AffsAt w va xa) (he : EntsAt w ve ea) (ha' : AffsAt w ua xb) (he' : EntsAt w ue eb) :
    Calls Tryz.prog 53 #[.agg #[va, ve], .agg #[ua, ue]] w fun e w' => ∃ v, e = .returned v ∧ DeltaOwn w.heap.size w'.heap.size w' v (dofT xa ea xb eb) ∧ Below w.heap.size w w' := by
  obtain ⟨a0, cap0, rfl, hc0, hm0⟩ := ha.form
  obtain ⟨a1, cap1, rfl, hc1, hm1⟩ := he.form
  obtain ⟨a2, cap2, rfl, hc2, hm2⟩ := ha'.form
  obtain ⟨a3, cap3, rfl, hc3, hm3⟩ := he'.form
  have HA : Hid (AffsAt w (.slice a0 xa.length cap0) xa) := ha
  have HE : Hid (EntsAt w (.slice a1 ea.length cap1) ea) := he
  have HA' : Hid (AffsAt w (.slice a2 xb.length cap2) xb) := ha'
  have HE' : Hid (EntsAt w (.slice a3 eb.length cap3) eb) := he'
  clear ha he ha' he'
  unfold maxLen at hm0 hm1 hm2 hm3
  obtain ⟨i3, hi3, hz3, hs3, hb3⟩ := info_parts Tryz.info_str146
  obtain ⟨i4, hi4, hz4', hs4, hb4'⟩ := info_parts Tryz.info_ent146
  have HX : Hid (Below w.heap.size w (((w.alloc (.cells #[.slice a0 xa.length cap0, .slice a1 ea.length cap1] 43)).alloc (.cells #[.slice a2 xb.length cap2, .slice a3 eb.length cap3] 43)).alloc (.cells #[.slice none 0 0, .slice none 0 0, .bool false, .slice none 0 0] 35))) := (((Below.refl _ _).alloc (Nat.le_refl _) _).alloc (by simp) _).alloc (by simp <;> omega) _
  go_enter Tryz.func53, Tryz.ntmps53
  go_wp2_with fail
  refine (implBookOk_any _ _ _ xa ea (HA.out.below HX.out) (HE.out.below HX.out)).mono ?_
  rintro e w1 ⟨rfl, hb1⟩
  have HB1 : Hid (Below w.heap.size w w1) := HX.out.trans (hb1.mono (by simp <;> omega))
  have c1_0 : w1.cell? ⟨w.heap.size, 0, none⟩ = some (.slice a0 xa.length cap0) := (hb1.cell (p := ⟨w.heap.size, 0, none⟩) (by simp <;> omega)).trans (by simp [go_sem])
  have c1_1 : w1.cell? ⟨w.heap.size, 1, none⟩ = some (.slice a1 ea.length cap1) := (hb1.cell (p := ⟨w.heap.size, 1, none⟩) (by simp <;> omega)).trans (by simp [go_sem])
  have c1_2 : w1.cell? ⟨w.heap.size + 1, 0, none⟩ = some (.slice a2 xb.length cap2) := (hb1.cell (p := ⟨w.heap.size + 1, 0, none⟩) (by simp <;> omega)).trans (by simp [go_sem])
  have c1_3 : w1.cell? ⟨w.heap.size + 1, 1, none⟩ = some (.slice a3 eb.length cap3) := (hb1.cell (p := ⟨w.heap.size + 1, 1, none⟩) (by simp <;> omega)).trans (by simp [go_sem])
  have HR1 : Hid (DRow w1 (w.heap.size + 1 + 1) (.slice none 0 0) (.slice none 0 0) false (.slice none 0 0)) := by
    have h := DRow.new ((w.alloc (.cells #[.slice a0 xa.length cap0, .slice a1 ea.length cap1] 43)).alloc (.cells #[.slice a2 xb.length cap2, .slice a3 eb.length cap3] 43)) (.slice none 0 0) (.slice none 0 0) false (.slice none 0 0)
    simp only [World.size_alloc] at h
    exact h.below hb1
  have hz1 : w.heap.size + 1 + 1 < w1.heap.size := by have := hb1.size; simp at this; omega
  clear hb1
  cases hba : bookT xa ea with
  | false =>
    have HD : Hid (dofT xa ea xb eb = ([], [], false, [])) := if_neg (by simp [hba])
    have r0 := HR1.out.c0
    have r1 := HR1.out.c1
    have r2 := HR1.out.c2
    have r3 := HR1.out.c3
    have f0 := HR1.out.fz 0
    have f1 := HR1.out.fz 1
    have f2 := HR1.out.fz 2
    have f3 := HR1.out.fz 3
    go_wp2
    have HF := (((HR1.out.set0 (.slice none 0 0)).set1 (.slice none 0 0)).set2 false).set3 (.slice none 0 0)
    have q0 := HF.c0
    have q1 := HF.c1
    have q2 := HF.c2
    have q3 := HF.c3
    refine bodyPost_ret (v := .agg #[.slice none 0 0, .slice none 0 0, .bool false, .slice none 0 0]) (by simp [results, Tryz.results53, go_sem, q0, q1, q2, q3]) rfl ⟨_, rfl, ?_, ?_⟩
    · rw [HD.out]
      exact nil_own _ _ _ _
    · exact (((HB1.out.setCell (by simp <;> omega) _).setCell (by simp <;> omega) _).setCell (by simp <;> omega) _).setCell (by simp <;> omega) _
  | true =>
    go_wp2_with fail
    refine (implBookOk_any _ _ _ xb eb (HA'.out.below HB1.out) (HE'.out.below HB1.out)).mono ?_
    rintro e w2 ⟨rfl, hb2⟩
    have HB2 : Hid (Below w.heap.size w w2) := HB1.out.trans (hb2.mono HB1.out.size)
    have c2_0 := (hb2.cell (p := ⟨w.heap.size, 0, none⟩) (by simp <;> omega)).trans c1_0
    have c2_1 := (hb2.cell (p := ⟨w.heap.size, 1, none⟩) (by simp <;> omega)).trans c1_1
    have c2_2 := (hb2.cell (p := ⟨w.heap.size + 1, 0, none⟩) (by simp <;> omega)).trans c1_2
    have c2_3 := (hb2.cell (p := ⟨w.heap.size + 1, 1, none⟩) (by simp <;> omega)).trans c1_3
    have HR2 : Hid (DRow w2 (w.heap.size + 1 + 1) (.slice none 0 0) (.slice none 0 0) false (.slice none 0 0)) := HR1.out.below hb2
    have hz2 : w.heap.size + 1 + 1 < w2.heap.size := by have := hb2.size; omega
    clear hb2 c1_0 c1_1 c1_2 c1_3 HR1 hz1
    cases hbb : bookT xb eb with
    | false =>
      have HD : Hid (dofT xa ea xb eb = ([], [], false, [])) := if_neg (by simp [hbb])
      have r0 := HR2.out.c0
      have r1 := HR2.out.c1
      have r2 := HR2.out.c2
      have r3 := HR2.out.c3
      have f0 := HR2.out.fz 0
      have f1 := HR2.out.fz 1
      have f2 := HR2.out.fz 2
      have f3 := HR2.out.fz 3
      go_wp2
      have HF := (((HR2.out.set0 (.slice none 0 0)).set1 (.slice none 0 0)).set2 false).set3 (.slice none 0 0)
      have q0 := HF.c0
      have q1 := HF.c1
      have q2 := HF.c2
      have q3 := HF.c3
      refine bodyPost_ret (v := .agg #[.slice none 0 0, .slice none 0 0, .bool false, .slice none 0 0]) (by simp [results, Tryz.results53, go_sem, q0, q1, q2, q3]) rfl ⟨_, rfl, ?_, ?_⟩
      · rw [HD.out]
        exact nil_own _ _ _ _
      · exact (((HB2.out.setCell (by simp <;> omega) _).setCell (by simp <;> omega) _).setCell (by simp <;> omega) _).setCell (by simp <;> omega) _
    | true =>
      have HD : Hid (dofT xa ea xb eb = (goesOf ea eb, comesOf ea eb, !affsEq xa xb, if affsEq xa xb then [] else xb)) := if_pos (by simp [hba, hbb])
      obtain ⟨haa, hea⟩ := bookT_parts hba
      obtain ⟨hab, heb⟩ := bookT_parts hbb
      obtain ⟨hAa, hla⟩ := entsT_asc hea
      obtain ⟨hAb, hlb⟩ := entsT_asc heb
      have HAA : Hid (AscE ea) := hAa
      have HAB : Hid (AscE eb) := hAb
      have hxb := affsT_len hab
      have C0 : Hid (w2.cell? ⟨w.heap.size, 0, none⟩ = some (.slice a0 xa.length cap0)) := c2_0
      have C1 : Hid (w2.cell? ⟨w.heap.size, 1, none⟩ = some (.slice a1 ea.length cap1)) := c2_1
      have C2 : Hid (w2.cell? ⟨w.heap.size + 1, 0, none⟩ = some (.slice a2 xb.length cap2)) := c2_2
      have C3 : Hid (w2.cell? ⟨w.heap.size + 1, 1, none⟩ = some (.slice a3 eb.length cap3)) := c2_3
      have HEA : Hid (EntsAt w2 (.slice a1 ea.length cap1) ea) := HE.out.below HB2.out
      have HEB : Hid (EntsAt w2 (.slice a3 eb.length cap3) eb) := HE'.out.below HB2.out
      have HAA2 : Hid (AffsAt w2 (.slice a0 xa.length cap0) xa) := HA.out.below HB2.out
      have HAB2 : Hid (AffsAt w2 (.slice a2 xb.length cap2) xb) := HA'.out.below HB2.out
      clear haa hea hab heb hAa hAb HA HE HA' HE' HX
      have hz2a : w.heap.size < w2.heap.size := by omega
      have hz2b : w.heap.size + 1 < w2.heap.size := by omega
      go_wp2
      go_loopw [24] (fun i wr => ∃ (k : Nat) (v0 : Value), k ≤ ea.length ∧ i = .int .i64 k ∧ DRow wr w2.heap.size v0 (.slice none 0 0) false (.slice none 0 0) ∧ wr.ownsRow (w2.heap.size + 1) 9 1 v0 (goesOf (ea.take k) eb).length (texts (goesOf (ea.take k) eb)) ∧ Below w2.heap.size w2 wr ∧ w2.heap.size + 1 ≤ wr.heap.size) (fun i _ => ea.length - (intOf i).toNat)
      case atStart => exact ⟨0, _, Nat.zero_le _, rfl, DRow.new _ _ _ _ _, World.ownsRow_nil _ _ _ _, (Below.refl _ _).alloc (Nat.le_refl _) _, by simp⟩
      case round =>
        clear c2_0 c2_1 c2_2 c2_3
        obtain ⟨k, v0, hk, rfl, hd, ho, hb, hsz⟩ := hrel
        have HDR : Hid (DRow wr w2.heap.size v0 (.slice none 0 0) false (.slice none 0 0)) := hd
        have HO : Hid (wr.ownsRow (w2.heap.size + 1) 9 1 v0 (goesOf (ea.take k) eb).length (texts (goesOf (ea.take k) eb))) := ho
        have HB : Hid (Below w2.heap.size w2 wr) := hb
        obtain ⟨b0, cq0, rfl⟩ := owns_form ho
        clear hd ho hb
        by_cases hlt : k < ea.length
        · obtain ⟨b, off, cap', x, hv, hbl, hx, hxf, e0, e1⟩ := (HEA.out.below HB.out).at hlt
          cases hv
          have HG := goes_take (eb := eb) hx
          have HG2 : Hid (goesOf (ea.take (k + 1)) eb = goesOf (ea.take k) eb ++ if goesF eb x then [x.1] else []) := HG
          have hgl := goes_len ea eb k
          obtain ⟨st, fl⟩ := x
          simp only at e0 e1 hxf
          have d3 := (HB.out.cell (p := ⟨w.heap.size + 1, 1, none⟩) (by omega)).trans C3.out
          have HXA : Hid (Below wr.heap.size wr (wr.alloc (.cells #[.string st, .string fl] 89))) := (Below.refl _ _).alloc (Nat.le_refl _) _
          have hzr : w.heap.size + 1 < wr.heap.size := by omega
          clear hx HG hxf
          go_wp2_with fail
          refine (stemPlace_any _ _ eb st ((HEB.out.below HB.out).below HXA.out) HAB.out (by omega)).mono ?_
          rintro e w4 ⟨ip, rfl, hb4⟩
          have HB4 : Hid (Below wr.heap.size wr w4) := HXA.out.trans (hb4.mono (by simp))
          have s4 : w4.cell? ⟨wr.heap.size, 0, none⟩ = some (.string st) := (hb4.cell (p := ⟨wr.heap.size, 0, none⟩) (by simp)).trans (by simp [go_sem])
          have HD4 : Hid (DRow w4 w2.heap.size (.slice b0 (goesOf (ea.take k) eb).length cq0) (.slice none 0 0) false (.slice none 0 0)) := HDR.out.below HB4.out
          have HO4 : Hid (w4.ownsRow (w2.heap.size + 1) 9 1 (.slice b0 (goesOf (ea.take k) eb).length cq0) (goesOf (ea.take k) eb).length (texts (goesOf (ea.take k) eb))) := owns_below HO.out HB4.out
          have hz4 : wr.heap.size < w4.heap.size := by have := hb4.size; simp at this; omega
          have HBW : Hid (Below w2.heap.size w2 w4) := HB.out.trans (HB4.out.mono HB.out.size)
          clear hb4 e0 e1 d3
          cases hth : (eb.any fun e => e.1.toList == st.toList) with
          | true =>
            have HGF : Hid (goesOf (ea.take (k + 1)) eb = goesOf (ea.take k) eb) := by show goesOf _ _ = _; rw [HG2.out]; simp [goesF, hth]
            clear s4
            go_wp2
            go_roundw
            case rel => exact ⟨k + 1, _, by omega, by go_num, HD4.out, by rw [HGF.out]; exact HO4.out, HBW.out, by omega⟩
            case measure => simp [intOf]; omega
          | false =>
            have HGF : Hid (goesOf (ea.take (k + 1)) eb = goesOf (ea.take k) eb ++ [st]) := by show goesOf _ _ = _; rw [HG2.out]; simp [goesF, hth]
            have g0 := HD4.out.c0
            go_wp2_with (at_builtin; refine wpList_append_own _ rfl _ _ 22 rfl (w2.heap.size + 1) 9 i3 (.string ⟨#[]⟩) 1 16 Tryz.underlying22 hi3 hz3 hs3 hb3 rfl (by decide) _ _ _ rfl (HO4.out.alloc _) ⟨_, 0, none⟩ 1 1 [.string st] rfl rfl (cell_one_new _ _ _) (one_text st) (by unfold maxLen; omega) (by omega) (by rw [World.size_alloc]; omega) ?_; intro v' w5 hown hgrow hnil; have HD5 : Hid (DRow w5 w2.heap.size (.slice b0 (goesOf (ea.take k) eb).length cq0) (.slice none 0 0) false (.slice none 0 0)) := (HD4.out.alloc _).grown hgrow (owns_ne HO4.out (by omega)); have HB5 : Hid (Below w2.heap.size w2 w5) := Below.grown (HBW.out.alloc HBW.out.size _) hgrow (by rw [World.size_alloc]; omega) (fun k' hk' => by have := own_block_ge HO4.out k' hk'; omega); have hs5 : w2.heap.size + 1 ≤ w5.heap.size := (by have := hgrow.size; rw [World.size_alloc] at this; omega); have HO5 : Hid (w5.ownsRow (w2.heap.size + 1) 9 1 v' ((goesOf (ea.take k) eb).length + 1) (texts (goesOf (ea.take k) eb) ++ [.string st])) := hown; have q0 := HD5.out.c0; have q1 := HD5.out.fz 0; clear hgrow hnil; obtain ⟨ag, cg, rfl⟩ := owns_form hown; clear hown)
            go_roundw
            case rel =>
              refine ⟨k + 1, _, by omega, by go_num, HD5.out.set0 _, ?_, HB5.out.setCell (Nat.le_refl _) _, by rw [Go.Deep.nblk_setCell]; exact hs5⟩
              rw [HGF.out, List.length_append, texts_append]
              exact owns_set HO5.out _ _ _ (by omega)
            case measure => simp [intOf]; omega
        · have hke : k = ea.length := by omega
          subst hke
          have hG : goesOf (ea.take ea.length) eb = goesOf ea eb := by rw [List.take_length]
          have HO1 : Hid (wr.ownsRow (w2.heap.size + 1) 9 1 (.slice b0 (goesOf ea eb).length cq0) (goesOf ea eb).length (texts (goesOf ea eb))) := by have := HO.out; rw [hG] at this; exact this
          have HDR1 : Hid (DRow wr w2.heap.size (.slice b0 (goesOf ea eb).length cq0) (.slice none 0 0) false (.slice none 0 0)) := by have := HDR.out; rw [hG] at this; exact this
          have hgl : (goesOf ea eb).length ≤ 24 := by have := goes_len ea eb ea.length; rw [hG] at this; omega
          have HGS : Hid (∀ (i : Nat) (x : ByteArray), (goesOf ea eb)[i]? = some x → x.size ≤ maxLen) := fun i x hx => by
            have := List.mem_of_getElem? hx
            unfold goesOf at this
            obtain ⟨y, hy, rfl⟩ := List.mem_map.1 this
            obtain ⟨j, hj, he⟩ := List.mem_iff_getElem.1 (List.mem_filter.1 hy).1
            exact (HEA.out.fit j y (by rw [List.getElem?_eq_getElem hj, he])).1
          have HCS : Hid (∀ (i : Nat) (x : ByteArray × ByteArray), (comesOf ea eb)[i]? = some x → x.1.size ≤ maxLen ∧ x.2.size ≤ maxLen) := fun i x hx => by
            have := List.mem_of_getElem? hx
            obtain ⟨j, hj, he⟩ := List.mem_iff_getElem.1 (List.mem_filter.1 this).1
            exact HEB.out.fit j x (by rw [List.getElem?_eq_getElem hj, he])
          clear hG HO hlt hk HDR
          generalize goesOf ea eb = GS at *
          have d3 := (HB.out.cell (p := ⟨w.heap.size + 1, 1, none⟩) (by omega)).trans C3.out
          go_wp2
          go_loopw [49] (fun i wr => ∃ (k : Nat) (v1 : Value), k ≤ eb.length ∧ i = .int .i64 k ∧ DRow wr w2.heap.size (.slice b0 GS.length cq0) v1 false (.slice none 0 0) ∧ wr.ownsRow (w2.heap.size + 1) 9 1 (.slice b0 GS.length cq0) GS.length (texts GS) ∧ wr.ownsRow (w2.heap.size + 1) 89 2 v1 (comesOf ea (eb.take k)).length (entCells (comesOf ea (eb.take k))) ∧ Below w2.heap.size w2 wr ∧ w2.heap.size + 1 ≤ wr.heap.size) (fun i _ => eb.length - (intOf i).toNat)
          case atStart => exact ⟨0, _, Nat.zero_le _, rfl, HDR1.out, HO1.out, World.ownsRow_nil _ _ _ _, HB.out, hsz⟩
          case round =>
            clear HB HDR1 HO1 hsz d3
            obtain ⟨k, v1, hk, rfl, hd, hog, ho, hb, hsz⟩ := hrel
            have HDR : Hid (DRow wr w2.heap.size (.slice b0 GS.length cq0) v1 false (.slice none 0 0)) := hd
            have HOG : Hid (wr.ownsRow (w2.heap.size + 1) 9 1 (.slice b0 GS.length cq0) GS.length (texts GS)) := hog
            have HO : Hid (wr.ownsRow (w2.heap.size + 1) 89 2 v1 (comesOf ea (eb.take k)).length (entCells (comesOf ea (eb.take k)))) := ho
            have HB : Hid (Below w2.heap.size w2 wr) := hb
            obtain ⟨b1, cq1, rfl⟩ := owns_form ho
            clear hd ho hb hog
            by_cases hlt : k < eb.length
            · obtain ⟨b, off, cap', x, hv, hbl, hx, hxf, e0, e1⟩ := (HEB.out.below HB.out).at hlt
              cases hv
              have HG2 : Hid (comesOf ea (eb.take (k + 1)) = comesOf ea (eb.take k) ++ if comesF ea x then [x] else []) := comes_take hx
              have hcl := comes_len ea eb k
              obtain ⟨st, fl⟩ := x
              simp only at e0 e1 hxf
              have d1 := (HB.out.cell (p := ⟨w.heap.size, 1, none⟩) (by omega)).trans C1.out
              have HXA : Hid (Below wr.heap.size wr (wr.alloc (.cells #[.string st, .string fl] 89))) := (Below.refl _ _).alloc (Nat.le_refl _) _
              have hzr : w.heap.size < wr.heap.size := by omega
              clear hx hxf
              go_wp2_with fail
              refine (eContains_any _ _ ea (st, fl) ((HEA.out.below HB.out).below HXA.out)).mono ?_
              rintro e w4 ⟨rfl, hb4⟩
              have HB4 : Hid (Below wr.heap.size wr w4) := HXA.out.trans (hb4.mono (by simp))
              have s4 : w4.cell? ⟨wr.heap.size, 0, none⟩ = some (.string st) := (hb4.cell (p := ⟨wr.heap.size, 0, none⟩) (by simp)).trans (by simp [go_sem])
              have s5 : w4.cell? ⟨wr.heap.size, 1, none⟩ = some (.string fl) := (hb4.cell (p := ⟨wr.heap.size, 1, none⟩) (by simp)).trans (by simp [go_sem])
              have HD4 : Hid (DRow w4 w2.heap.size (.slice b0 GS.length cq0) (.slice b1 (comesOf ea (eb.take k)).length cq1) false (.slice none 0 0)) := HDR.out.below HB4.out
              have HOG4 : Hid (w4.ownsRow (w2.heap.size + 1) 9 1 (.slice b0 GS.length cq0) GS.length (texts GS)) := owns_below HOG.out HB4.out
              have HO4 : Hid (w4.ownsRow (w2.heap.size + 1) 89 2 (.slice b1 (comesOf ea (eb.take k)).length cq1) (comesOf ea (eb.take k)).length (entCells (comesOf ea (eb.take k)))) := owns_below HO.out HB4.out
              have hz4 : wr.heap.size < w4.heap.size := by have := hb4.size; simp at this; omega
              have HBW : Hid (Below w2.heap.size w2 w4) := HB.out.trans (HB4.out.mono HB.out.size)
              clear hb4 e0 e1 d1
              cases hth : entIn ea (st, fl) with
              | true =>
                have HGF : Hid (comesOf ea (eb.take (k + 1)) = comesOf ea (eb.take k)) := by show comesOf _ _ = _; rw [HG2.out]; simp [comesF, hth]
                clear s4 s5
                go_wp2
                go_roundw
                case rel => exact ⟨k + 1, _, by omega, by go_num, HD4.out, HOG4.out, by rw [HGF.out]; exact HO4.out, HBW.out, by omega⟩
                case measure => simp [intOf]; omega
              | false =>
                have HGF : Hid (comesOf ea (eb.take (k + 1)) = comesOf ea (eb.take k) ++ [(st, fl)]) := by show comesOf _ _ = _; rw [HG2.out]; simp [comesF, hth]
                have g0 := HD4.out.c1
                go_wp2_with (at_builtin; refine wpList_append_own _ rfl _ _ 32 rfl (w2.heap.size + 1) 89 i4 (.agg #[.string ⟨#[]⟩, .string ⟨#[]⟩]) 2 32 Tryz.underlying32 hi4 hz4' hs4 hb4' rfl (by decide) _ _ _ rfl (HO4.out.alloc _) ⟨_, 0, none⟩ 1 1 [.string st, .string fl] rfl rfl (news_cells (cs := #[.string st, .string fl]) (heap_alloc_last _ _)) (by simp [Value.oneCell']) (by unfold maxLen; omega) (by omega) (by rw [World.size_alloc]; omega) ?_; intro v' w5 hown hgrow hnil; have HD5 : Hid (DRow w5 w2.heap.size (.slice b0 GS.length cq0) (.slice b1 (comesOf ea (eb.take k)).length cq1) false (.slice none 0 0)) := (HD4.out.alloc _).grown hgrow (owns_ne HO4.out (by omega)); have HOG5 : Hid (w5.ownsRow (w2.heap.size + 1) 9 1 (.slice b0 GS.length cq0) GS.length (texts GS)) := (HOG4.out.alloc _).kept hgrow (rows_apart HOG4.out HO4.out (by decide)); have HB5 : Hid (Below w2.heap.size w2 w5) := Below.grown (HBW.out.alloc HBW.out.size _) hgrow (by rw [World.size_alloc]; omega) (fun k' hk' => by have := own_block_ge HO4.out k' hk'; omega); have hs5 : w2.heap.size + 1 ≤ w5.heap.size := (by have := hgrow.size; rw [World.size_alloc] at this; omega); have HO5 : Hid (w5.ownsRow (w2.heap.size + 1) 89 2 v' ((comesOf ea (eb.take k)).length + 1) (entCells (comesOf ea (eb.take k)) ++ [.string st, .string fl])) := hown; have q0 := HD5.out.c1; have q1 := HD5.out.fz 1; clear hgrow hnil; obtain ⟨ag, cg, rfl⟩ := owns_form hown; clear hown)
                go_roundw
                case rel =>
                  refine ⟨k + 1, _, by omega, by go_num, HD5.out.set1 _, owns_set HOG5.out _ _ _ (by omega), ?_, HB5.out.setCell (Nat.le_refl _) _, by rw [Go.Deep.nblk_setCell]; exact hs5⟩
                  rw [HGF.out, List.length_append, entCells_append]
                  exact owns_set HO5.out _ _ _ (by omega)
                case measure => simp [intOf]; omega
            · have hke : k = eb.length := by omega
              subst hke
              have hG : comesOf ea (eb.take eb.length) = comesOf ea eb := by rw [List.take_length]
              have HO1 : Hid (wr.ownsRow (w2.heap.size + 1) 89 2 (.slice b1 (comesOf ea eb).length cq1) (comesOf ea eb).length (entCells (comesOf ea eb))) := by have := HO.out; rw [hG] at this; exact this
              have HDR1 : Hid (DRow wr w2.heap.size (.slice b0 GS.length cq0) (.slice b1 (comesOf ea eb).length cq1) false (.slice none 0 0)) := by have := HDR.out; rw [hG] at this; exact this
              clear hG HO hlt hk HDR
              generalize comesOf ea eb = CS at *
              have d0 := (HB.out.cell (p := ⟨w.heap.size, 0, none⟩) (by omega)).trans C0.out
              have d2 := (HB.out.cell (p := ⟨w.heap.size + 1, 0, none⟩) (by omega)).trans C2.out
              have HRR : Hid (DRow wr (w.heap.size + 1 + 1) (.slice none 0 0) (.slice none 0 0) false (.slice none 0 0)) := World.rowIs.of_block HR2.out (HB.out.block _ hz2)
              go_wp2_with fail
              refine (sEqualA_any _ _ _ xa xb (HAA2.out.below HB.out) (HAB2.out.below HB.out)).mono ?_
              rintro e w4 ⟨rfl, hb4⟩
              have HD4 : Hid (DRow w4 w2.heap.size (.slice b0 GS.length cq0) (.slice b1 CS.length cq1) false (.slice none 0 0)) := HDR1.out.below hb4
              have HR4 : Hid (DRow w4 (w.heap.size + 1 + 1) (.slice none 0 0) (.slice none 0 0) false (.slice none 0 0)) := HRR.out.below hb4
              have HB4 : Hid (Below w2.heap.size w2 w4) := HB.out.trans (hb4.mono HB.out.size)
              have HRW4 : Hid (DRows (w2.heap.size + 1) w4 (.slice b0 GS.length cq0) (.slice b1 CS.length cq1) (.slice none 0 0) GS CS []) := ⟨owns_below HOG.out hb4, owns_below HO1.out hb4, World.ownsRow_nil _ _ _ _⟩
              have d4 := (hb4.cell (p := ⟨w.heap.size + 1, 0, none⟩) (show w.heap.size + 1 < wr.heap.size by omega)).trans d2
              have hs4z : w2.heap.size + 1 ≤ w4.heap.size := Nat.le_trans hsz hb4.size
              clear hb4 d0 d2
              cases hq : affsEq xa xb with
              | true =>
                have HDD : Hid (dofT xa ea xb eb = (GS, CS, false, [])) := by show dofT _ _ _ _ = _; rw [HD.out, hq]; rfl
                have g0 := HD4.out.c0
                have g1 := HD4.out.c1
                have g2 := HD4.out.c2
                have g3 := HD4.out.c3
                have r0 := HR4.out.c0
                have r1 := HR4.out.c1
                have r2 := HR4.out.c2
                have r3 := HR4.out.c3
                have f0 := HR4.out.fz 0
                have f1 := HR4.out.fz 1
                have f2 := HR4.out.fz 2
                have f3 := HR4.out.fz 3
                go_wp2
                have HF := (((HR4.out.set0 (.slice b0 GS.length cq0)).set1 (.slice b1 CS.length cq1)).set2 false).set3 (.slice none 0 0)
                have q0 := HF.c0
                have q1 := HF.c1
                have q2 := HF.c2
                have q3 := HF.c3
                refine bodyPost_ret (v := .agg #[.slice b0 GS.length cq0, .slice b1 CS.length cq1, .bool false, .slice none 0 0]) (by simp [results, Tryz.results53, go_sem, q0, q1, q2, q3]) rfl ⟨_, rfl, ?_, ?_⟩
                · rw [HDD.out]
                  have h := ((((HRW4.out.set (w.heap.size + 1 + 1) 0 (.slice b0 GS.length cq0) (by omega)).set (w.heap.size + 1 + 1) 1 (.slice b1 CS.length cq1) (by omega)).set (w.heap.size + 1 + 1) 2 (.bool false) (by omega)).set (w.heap.size + 1 + 1) 3 (.slice none 0 0) (by omega))
                  exact (h.low (by omega)).own false HGS.out HCS.out (fun i x hx => by simp at hx)
                · exact ((((HB2.out.trans (HB4.out.mono HB2.out.size)).setCell (by simp <;> omega) _).setCell (by simp <;> omega) _).setCell (by simp <;> omega) _).setCell (by simp <;> omega) _
              | false =>
                have HDD : Hid (dofT xa ea xb eb = (GS, CS, true, xb)) := by show dofT _ _ _ _ = _; rw [HD.out, hq]; rfl
                have hz4a : w.heap.size + 1 + 1 < w4.heap.size := by omega
                go_wp2_with fail
                refine (copyOfA_any _ _ xb ((HAB2.out.below HB4.out)) (by omega)).mono ?_
                rintro e w5 ⟨v3, rfl, ho5, hb5⟩
                obtain ⟨b3, q3c, rfl⟩ := owns_form ho5
                have HD5 : Hid (DRow w5 w2.heap.size (.slice b0 GS.length cq0) (.slice b1 CS.length cq1) false (.slice none 0 0)) := HD4.out.below hb5
                have HR5 : Hid (DRow w5 (w.heap.size + 1 + 1) (.slice none 0 0) (.slice none 0 0) false (.slice none 0 0)) := HR4.out.below hb5
                have HB5 : Hid (Below w2.heap.size w2 w5) := HB4.out.trans (hb5.mono HB4.out.size)
                have HRW5 : Hid (DRows (w2.heap.size + 1) w5 (.slice b0 GS.length cq0) (.slice b1 CS.length cq1) (.slice b3 xb.length q3c) GS CS xb) := ⟨owns_below HRW4.out.1 hb5, owns_below HRW4.out.2.1 hb5, owns_lower ho5 hs4z⟩
                have hne5 : w.heap.size + 1 + 1 ≠ w2.heap.size := by omega
                clear hb5 ho5 d4
                have g0 := HD5.out.c0
                have g1 := HD5.out.c1
                have g2 := HD5.out.c2
                have g3 := HD5.out.c3
                have t2 := HD5.out.fz 2
                have t3 := HD5.out.fz 3
                have r0 := HR5.out.c0
                have r1 := HR5.out.c1
                have r2 := HR5.out.c2
                have r3 := HR5.out.c3
                have f0 := HR5.out.fz 0
                have f1 := HR5.out.fz 1
                have f2 := HR5.out.fz 2
                have f3 := HR5.out.fz 3
                go_wp2
                have HS5 := (HR5.out.other (p := ⟨w2.heap.size, 2, none⟩) hne5 (.bool true)).other (p := ⟨w2.heap.size, 3, none⟩) hne5 (.slice b3 xb.length q3c)
                have HF := (((HS5.set0 (.slice b0 GS.length cq0)).set1 (.slice b1 CS.length cq1)).set2 true).set3 (.slice b3 xb.length q3c)
                have q0 := HF.c0
                have q1 := HF.c1
                have q2 := HF.c2
                have q3 := HF.c3
                refine bodyPost_ret (v := .agg #[.slice b0 GS.length cq0, .slice b1 CS.length cq1, .bool true, .slice b3 xb.length q3c]) (by simp [results, Tryz.results53, go_sem, q0, q1, q2, q3]) rfl ⟨_, rfl, ?_, ?_⟩
                · rw [HDD.out]
                  have h := ((((((HRW5.out.set w2.heap.size 2 (.bool true) (by omega)).set w2.heap.size 3 (.slice b3 xb.length q3c) (by omega)).set (w.heap.size + 1 + 1) 0 (.slice b0 GS.length cq0) (by omega)).set (w.heap.size + 1 + 1) 1 (.slice b1 CS.length cq1) (by omega)).set (w.heap.size + 1 + 1) 2 (.bool true) (by omega)).set (w.heap.size + 1 + 1) 3 (.slice b3 xb.length q3c) (by omega))
                  exact (h.low (by omega)).own true HGS.out HCS.out HAB2.out.fit
                · exact ((((((HB2.out.trans (HB5.out.mono HB2.out.size)).setCell (by simp <;> omega) _).setCell (by simp <;> omega) _).setCell (by simp <;> omega) _).setCell (by simp <;> omega) _).setCell (by simp <;> omega) _).setCell (by simp <;> omega) _
end Go.Proofs.YtkepmjebnkcbgaaGreatDoor
/-
  What changes from one book that is ok to another one is ok.
-/
namespace Go.Proofs.YtkepmjebnkcbgaaGreatDoor
open Go.RowKit
set_option linter.unusedVariables false
theorem entsT_all {es : List (ByteArray × ByteArray)} (h : entsT es = true) : ∀ e ∈ es, entT e.1 e.2 = true := by
  intro e he
  obtain ⟨i, hi, hx⟩ := List.getElem_of_mem he
  have hx2 : es[i]? = some e := by rw [List.getElem?_eq_getElem hi, hx]
  unfold entsT at h
  rw [Bool.and_eq_true, List.all_eq_true] at h
  have := h.2 i (List.mem_range.2 hi)
  simp only [entAt, hx2, Bool.and_eq_true] at this
  exact this.1
theorem entsT_of {es : List (ByteArray × ByteArray)} (hl : es.length ≤ 24) (ha : AscE es) (he : ∀ e ∈ es, entT e.1 e.2 = true) : entsT es = true := by
  rw [entsT_good fun i hi => ?_]
  · exact decide_eq_true hl
  have hx : es[i]? = some es[i] := List.getElem?_eq_getElem hi
  have h1 := he _ (List.getElem_mem hi)
  match i, hi, hx, h1 with
  | 0, hi, hx, h1 => rw [entAt_zero hx]; exact h1
  | j + 1, hi, hx, h1 =>
    have hp : es[j]? = some es[j] := List.getElem?_eq_getElem (by omega)
    rw [entAt_succ hp hx, h1, Bool.true_and]
    exact List.pairwise_iff_getElem.1 ha j (j + 1) (by omega) hi (by omega)
theorem goesT_of {gs : List ByteArray} (hl : gs.length ≤ 24) (ha : gs.Pairwise fun a b => Op.bytesLess a.toList b.toList = true) (he : ∀ g ∈ gs, wok g = true) : goesT gs = true := by
  unfold goesT
  rw [decide_eq_true hl, Bool.true_and]
  refine goesAll_good fun i hi => ?_
  have hx : gs[i]? = some gs[i] := List.getElem?_eq_getElem hi
  have h1 := he _ (List.getElem_mem hi)
  match i, hi, hx, h1 with
  | 0, hi, hx, h1 => rw [goAt_zero hx]; exact h1
  | j + 1, hi, hx, h1 =>
    have hp : gs[j]? = some gs[j] := List.getElem?_eq_getElem (by omega)
    rw [goAt_succ hp hx, h1, Bool.true_and]
    exact List.pairwise_iff_getElem.1 ha j (j + 1) (by omega) hi (by omega)
theorem dof_ok {xa xb : List Aff} {ea eb : List (ByteArray × ByteArray)} (h1 : bookT xa ea = true) (h2 : bookT xb eb = true) :
    dofT xa ea xb eb = (goesOf ea eb, comesOf ea eb, !affsEq xa xb, if affsEq xa xb then [] else xb) ∧ deltaT (goesOf ea eb) (comesOf ea eb) (!affsEq xa xb) (if affsEq xa xb then [] else xb) = true := by
  refine ⟨by unfold dofT; rw [h1, h2]; rfl, ?_⟩
  obtain ⟨a1, a2⟩ := bookT_parts h1
  obtain ⟨b1, b2⟩ := bookT_parts h2
  obtain ⟨p1, p2⟩ := entsT_asc a2
  obtain ⟨q1, q2⟩ := entsT_asc b2
  have g1 : goesT (goesOf ea eb) = true := by
    refine goesT_of ?_ ?_ ?_
    · have := goes_len ea eb ea.length
      rw [List.take_length] at this
      omega
    · unfold goesOf
      rw [List.pairwise_map]
      exact p1.filter _
    · intro g hg
      unfold goesOf at hg
      obtain ⟨e, he, rfl⟩ := List.mem_map.1 hg
      have := entsT_all a2 e (List.mem_filter.1 he).1
      unfold entT at this
      rw [Bool.and_eq_true] at this
      exact this.1
  have g2 : entsT (comesOf ea eb) = true := by
    refine entsT_of ?_ (q1.filter _) ?_
    · have := comes_len ea eb eb.length
      rw [List.take_length] at this
      omega
    · intro e he
      exact entsT_all b2 e (List.mem_filter.1 he).1
  have g3 : anyT (goesOf ea eb) (comesOf ea eb) = false := by
    unfold anyT
    rw [List.any_eq_false]
    intro g hg
    unfold goesOf at hg
    obtain ⟨e, he, rfl⟩ := List.mem_map.1 hg
    have hgf := (List.mem_filter.1 he).2
    unfold goesF at hgf
    rw [Bool.not_eq_true', List.any_eq_false] at hgf
    rw [Bool.not_eq_true, List.any_eq_false]
    intro f hf
    exact hgf f (List.mem_filter.1 hf).1
  have g4 : affsT (if affsEq xa xb then [] else xb) = true := by
    split
    · rfl
    · exact b1
  have g5 : ((!affsEq xa xb) || decide ((if affsEq xa xb then ([] : List Aff) else xb).length = 0)) = true := by
    cases affsEq xa xb <;> simp
  unfold deltaT
  rw [g1, g2, g3, g4, g5]
  rfl
end Go.Proofs.YtkepmjebnkcbgaaGreatDoor
