/-
  Memory that is one's own, by types, in one form: texts, affixes, entries, books.
-/
import Derived.Test.YthedglgljehmgaaGreatDoorW134
import Derived.Test.YthedglgljehmgaaGreatDoorGW78
import Derived.Test.YthedglgljehmgaaGreatDoorGW111
import Derived.Test.YthedglgljehmgaaGreatDoorW71
import Derived.WalkKit
import Derived.ProofKit
import Derived.OpenShut
import Derived.ShutString
import Derived.ChangeOld
import Derived.Below
import Derived.Deep.RegionHeld3
namespace Go.Proofs.YthedglgljehmgaaGreatDoor
open Go.RowKit
set_option linter.unusedVariables false
/-- Texts so far. -/
def TxTo (k : Nat) (xs : List ByteArray) (f : Nat → Value) : Prop := ∀ (j : Nat) (x : ByteArray), j < k → xs[j]? = some x → f j = .string x
/-- Texts in a row of their own. -/
def TextsRow (lo hi : Nat) (w : World) (v : Value) (xs : List ByteArray) : Prop :=
  RowOwn 9 1 lo hi w v xs.length (TxTo xs.length xs) ∧ ∀ (i : Nat) (x : ByteArray), xs[i]? = some x → x.size ≤ maxLen
theorem TextsRow.at {lo hi : Nat} {w : World} {v : Value} {xs : List ByteArray} (h : TextsRow lo hi w v xs) : TextsAt w v xs := by
  obtain ⟨⟨a, cap, hv, hc, hm, hh⟩, hf⟩ := h
  refine ⟨a, cap, hv, hc, Nat.le_trans hc hm, hf, fun hn => ?_⟩
  obtain ⟨g, m, f, ha, _, _, hle, hr, hx⟩ := hh (fun e => hn (List.length_eq_zero_iff.1 e))
  refine ⟨g, 0, ha, hr.lt, fun i x hi => ?_⟩
  have hlt : i < xs.length := (List.getElem?_eq_some_iff.1 hi).1
  rw [Nat.zero_add]
  exact (hr.cell (by omega)).trans (by rw [hx i x hlt hi])
theorem TextsRow.below {lo hi : Nat} {w w' : World} {v : Value} {xs : List ByteArray} (h : TextsRow lo hi w v xs) (hb : Below w.heap.size w w') : TextsRow lo hi w' v xs := ⟨h.1.below hb, h.2⟩
theorem TextsRow.wr {lo hi l h' : Nat} {w w' : World} {v : Value} {xs : List ByteArray} (h : TextsRow lo hi w v xs) (hw : Wr l h' w w') (hl : h' ≤ lo) : TextsRow lo hi w' v xs := ⟨h.1.wr hw hl, h.2⟩
theorem TextsRow.weak {lo hi lo' hi' : Nat} {w : World} {v : Value} {xs : List ByteArray} (h : TextsRow lo hi w v xs) (h1 : lo' ≤ lo) (h2 : hi ≤ hi') : TextsRow lo' hi' w v xs := ⟨h.1.weak h1 h2, h.2⟩
theorem RowOwn.set {t : TypeId} {size lo hi G : Nat} {w : World} {n n' c : Nat} {C : (Nat → Value) → Prop} (h : RowOwn t size lo hi w (.slice (some ⟨G, 0, none⟩) n c) n' C) {p : Addr} (hp : G ≠ p.block) (u : Value) : RowOwn t size lo hi (w.setCell p u) (.slice (some ⟨G, 0, none⟩) n c) n' C :=
  h.block fun g _ _ hg _ _ => by
    have e : g = G := by simp [Value.ownBlock] at hg; exact hg.symm
    subst e
    exact Below.heap_setCell _ _ _ g hp
theorem TextsRow.set {lo hi G : Nat} {w : World} {n c : Nat} {xs : List ByteArray} (h : TextsRow lo hi w (.slice (some ⟨G, 0, none⟩) n c) xs) {p : Addr} (hp : G ≠ p.block) (u : Value) : TextsRow lo hi (w.setCell p u) (.slice (some ⟨G, 0, none⟩) n c) xs := ⟨h.1.set hp u, h.2⟩
/-- What was made by itself. -/
theorem TextsRow.of_own {lo : Nat} {w : World} {v : Value} {xs : List ByteArray} (h : TextsOwn lo w v xs) : TextsRow lo w.heap.size w v xs := by
  obtain ⟨a, cap, hv, hc, hm, hf, hh⟩ := h
  refine ⟨⟨a, cap, hv, hc, hm, fun hn => ?_⟩, hf⟩
  obtain ⟨g, n, f, ha, hlo, hle, hr, hx⟩ := hh (fun e => hn (by rw [e]; rfl))
  exact ⟨g, n, f, ha, hlo, hr.lt, by omega, hr, fun j x _ hj => hx j x hj⟩
/- Of the types 77 and 80. -/
theorem AffsOwn.weak {lo hi lo' hi' : Nat} {w : World} {v : Value} {xs : List Aff} (h : AffsOwn lo hi w v xs) (h1 : lo' ≤ lo) (h2 : hi ≤ hi') : AffsOwn lo' hi' w v xs := ⟨h.1.weak h1 h2, h.2⟩
theorem EntsOwn.weak {lo hi lo' hi' : Nat} {w : World} {v : Value} {xs : List (ByteArray × ByteArray)} (h : EntsOwn lo hi w v xs) (h1 : lo' ≤ lo) (h2 : hi ≤ hi') : EntsOwn lo' hi' w v xs := ⟨h.1.weak h1 h2, h.2⟩
theorem AffsOwn.set {lo hi G : Nat} {w : World} {n c : Nat} {xs : List Aff} (h : AffsOwn lo hi w (.slice (some ⟨G, 0, none⟩) n c) xs) {p : Addr} (hp : G ≠ p.block) (u : Value) : AffsOwn lo hi (w.setCell p u) (.slice (some ⟨G, 0, none⟩) n c) xs := ⟨h.1.set hp u, h.2⟩
theorem EntsOwn.set {lo hi G : Nat} {w : World} {n c : Nat} {xs : List (ByteArray × ByteArray)} (h : EntsOwn lo hi w (.slice (some ⟨G, 0, none⟩) n c) xs) {p : Addr} (hp : G ≠ p.block) (u : Value) : EntsOwn lo hi (w.setCell p u) (.slice (some ⟨G, 0, none⟩) n c) xs := ⟨h.1.set hp u, h.2⟩
/-- Books. -/
def BookAt (w : World) (v : Value) (x : List Aff × List (ByteArray × ByteArray)) : Prop := ∃ va ve, v = .agg #[va, ve] ∧ AffsAt w va x.1 ∧ EntsAt w ve x.2
def BookOwn (lo hi : Nat) (w : World) (v : Value) (x : List Aff × List (ByteArray × ByteArray)) : Prop := ∃ va ve, v = .agg #[va, ve] ∧ AffsOwn lo hi w va x.1 ∧ EntsOwn lo hi w ve x.2
def BookSm (x : List Aff × List (ByteArray × ByteArray)) : Prop := x.1.length ≤ 1048576 ∧ x.2.length ≤ 1048576
def bookCnt (x : List Aff × List (ByteArray × ByteArray)) : Nat := x.1.length * 5 + x.2.length * 2
def bookMk (k : Nat) (x : List Aff × List (ByteArray × ByteArray)) : List Aff × List (ByteArray × ByteArray) := (marksA k x.1.length, marksE (k + x.1.length * 5) x.2.length)
theorem BookAt.form {w : World} {v : Value} {x : List Aff × List (ByteArray × ByteArray)} (h : BookAt w v x) : ∃ va ve, v = .agg #[va, ve] := by obtain ⟨va, ve, hv, _⟩ := h; exact ⟨va, ve, hv⟩
theorem BookAt.below {w w' : World} {v : Value} {x : List Aff × List (ByteArray × ByteArray)} (h : BookAt w v x) (hb : Below w.heap.size w w') : BookAt w' v x := by
  obtain ⟨va, ve, hv, h1, h2⟩ := h
  exact ⟨va, ve, hv, h1.below hb, h2.below hb⟩
theorem BookOwn.at {lo hi : Nat} {w : World} {v : Value} {x : List Aff × List (ByteArray × ByteArray)} (h : BookOwn lo hi w v x) : BookAt w v x := by
  obtain ⟨va, ve, hv, h1, h2⟩ := h
  exact ⟨va, ve, hv, h1.at, h2.at⟩
theorem BookOwn.below {lo hi : Nat} {w w' : World} {v : Value} {x : List Aff × List (ByteArray × ByteArray)} (h : BookOwn lo hi w v x) (hb : Below w.heap.size w w') : BookOwn lo hi w' v x := by
  obtain ⟨va, ve, hv, h1, h2⟩ := h
  exact ⟨va, ve, hv, h1.below hb, h2.below hb⟩
theorem BookOwn.wr {lo hi l h' : Nat} {w w' : World} {v : Value} {x : List Aff × List (ByteArray × ByteArray)} (h : BookOwn lo hi w v x) (hw : Wr l h' w w') (hl : h' ≤ lo) : BookOwn lo hi w' v x := by
  obtain ⟨va, ve, hv, h1, h2⟩ := h
  exact ⟨va, ve, hv, h1.wr hw hl, h2.wr hw hl⟩
set_option maxHeartbeats 1000000 in
theorem szBook_r (w : World) (va ve : Value) (xs : List Aff) (es : List (ByteArray × ByteArray)) (left : Int) (ha : AffsAt w va xs) (he : EntsAt w ve es) (h0 : 0 ≤ left) (h1 : left ≤ 1048576) :
    Calls Tryz.prog 10 #[.agg #[va, ve], .int .i64 left] w fun e w' => (∃ r : Int, e = .returned (.int .i64 r) ∧ r ≤ left ∧ (0 ≤ r → xs.length ≤ 1048576 ∧ es.length ≤ 1048576)) ∧ Below w.heap.size w w' := by
  obtain ⟨a, cap, rfl, hc, hm⟩ := ha.form
  obtain ⟨a', cap', rfl, hc', hm'⟩ := he.form
  have HA : Hid (AffsAt w (.slice a xs.length cap) xs) := ha
  have HE : Hid (EntsAt w (.slice a' es.length cap') es) := he
  clear ha he
  go_enter Tryz.func10, Tryz.ntmps10
  go_wp2_with fail
  refine (szAffixS_any _ _ xs _ (HA.out.below ((Below.refl _ _).alloc (Nat.le_refl _) _)) (by omega) (by omega)).mono ?_
  rintro e w1 ⟨⟨r, rfl, hr1, hr2⟩, hb1⟩
  have HB1 : Hid (Below w.heap.size w w1) := Below.trans ((Below.refl _ _).alloc (Nat.le_refl _) _) (hb1.mono (by simp <;> omega))
  have HR : Hid (0 ≤ r → xs.length ≤ 1048576) := hr2
  have hcl : w1.cell? ⟨w.heap.size, 1, none⟩ = some (.slice a' es.length cap') := (hb1.cell (p := ⟨w.heap.size, 1, none⟩) (by simp)).trans (by simp [go_sem])
  have hz : w.heap.size < w1.heap.size := by have := hb1.size; simp at this; omega
  clear hb1 hr2
  by_cases hr : r < 0
  · go_wp2
    go_ret
    exact ⟨⟨-1, rfl, by omega, by omega⟩, HB1.out⟩
  · go_wp2_with fail
    refine (szEntryS_any _ _ es _ (HE.out.below HB1.out) (by omega) (by omega)).mono ?_
    rintro e w2 ⟨⟨q, rfl, hq1, hq2⟩, hb2⟩
    have HB2 : Hid (Below w.heap.size w w2) := HB1.out.trans (hb2.mono HB1.out.size)
    have HQ : Hid (0 ≤ q → es.length ≤ 1048576) := hq2
    clear hb2 hq2 hcl
    by_cases hq : q < 0
    · go_wp2
      go_ret
      exact ⟨⟨-1, rfl, by omega, by omega⟩, HB2.out⟩
    · go_wp2
      go_ret
      exact ⟨⟨q, rfl, by omega, fun _ => ⟨HR.out (by omega), HQ.out (by omega)⟩⟩, HB2.out⟩
set_option maxHeartbeats 1000000 in
theorem toBook_own (w : World) (va ve : Value) (xs : List Aff) (es : List (ByteArray × ByteArray)) (ha : AffsAt w va xs) (he : EntsAt w ve es) (hn : xs.length ≤ 1048576) (hn' : es.length ≤ 1048576) :
    Calls Tryz.prog 11 #[.agg #[va, ve]] w fun e w' => ∃ va' ve', e = .returned (.agg #[va', ve']) ∧ AffsOwn w.heap.size w'.heap.size w' va' xs ∧ EntsOwn w.heap.size w'.heap.size w' ve' es ∧ Below w.heap.size w w' := by
  obtain ⟨a, cap, rfl, hc, hm⟩ := ha.form
  obtain ⟨a', cap', rfl, hc', hm'⟩ := he.form
  have HA : Hid (AffsAt w (.slice a xs.length cap) xs) := ha
  have HE : Hid (EntsAt w (.slice a' es.length cap') es) := he
  clear ha he
  go_enter Tryz.func11, Tryz.ntmps11
  go_wp2_with fail
  refine (toAffixS_own _ _ xs (HA.out.below ?b1) hn).mono ?_
  case b1 => exact (((Below.refl _ _).alloc (Nat.le_refl _) _).alloc (by simp) _).alloc (by simp <;> omega) _
  rintro e w1 ⟨rfl, hA1, hb1⟩
  have HB1 : Hid (Below w.heap.size w w1) := Below.trans ((((Below.refl _ _).alloc (Nat.le_refl _) _).alloc (by simp) _).alloc (by simp <;> omega) _) (hb1.mono (by simp <;> omega))
  obtain ⟨hcl, hfz⟩ := bcell7 hb1
  have hz := hb1.size
  simp only [World.size_alloc] at hA1
  have HA1 : Hid (AffsOwn (w.heap.size + 1 + 1 + 1) w1.heap.size w1 (.slice (some ⟨w.heap.size + 1 + 1 + 1, 0, none⟩) xs.length xs.length) xs) := hA1
  simp at hz
  clear hb1 hA1
  go_wp2_with fail
  refine (toEntryS_own _ _ es (HE.out.below (HB1.out.setCell (by simp <;> omega) _)) hn').mono ?_
  rintro e w3 ⟨rfl, hE3, hb3⟩
  have HB3 : Hid (Below w.heap.size w w3) := (HB1.out.setCell (by simp <;> omega) _).trans (hb3.mono (by rw [Go.Deep.nblk_setCell]; omega))
  obtain ⟨hcl3, hfz3⟩ := bcell7 hb3
  have hz3 := hb3.size
  rw [Go.Deep.nblk_setCell] at hz3
  have HA3 : Hid (AffsOwn w.heap.size w3.heap.size w3 (.slice (some ⟨w.heap.size + 1 + 1 + 1, 0, none⟩) xs.length xs.length) xs) := ((HA1.out.weak (by omega) (by omega)).set (p := ⟨w.heap.size + 1 + 1, 0, none⟩) (by simp) _).below hb3
  rw [Go.Deep.nblk_setCell] at hE3 ⊢
  have HE3 : Hid (EntsOwn w.heap.size w3.heap.size w3 (.slice (some ⟨w1.heap.size, 0, none⟩) es.length es.length) es) := hE3.weak (by omega) (Nat.le_refl _)
  simp only [Go.Deep.nblk_setCell] at hcl3 hfz3
  have l1 : w.heap.size + 1 < w1.heap.size := by omega
  have l2 : w.heap.size + 1 + 1 < w1.heap.size := by omega
  have q10 : w3.cell? ⟨w.heap.size + 1, 0, none⟩ = some (.slice none 0 0) := by rw [hcl3 _ _ l1, World.cell?_setCell_other _ _ _ _ (by simp), hcl _ _ (by simp)]; simp [go_sem]
  have q11 : w3.cell? ⟨w.heap.size + 1, 1, none⟩ = some (.slice none 0 0) := by rw [hcl3 _ _ l1, World.cell?_setCell_other _ _ _ _ (by simp), hcl _ _ (by simp)]; simp [go_sem]
  have q20 : w3.cell? ⟨w.heap.size + 1 + 1, 0, none⟩ = some (.slice (some ⟨w.heap.size + 1 + 1 + 1, 0, none⟩) xs.length xs.length) := by rw [hcl3 _ _ l2]; exact World.cell?_setCell_same' _ _ _ (by rw [hcl _ _ (by simp)]; simp [go_sem])
  have q21 : w3.cell? ⟨w.heap.size + 1 + 1, 1, none⟩ = some (.slice none 0 0) := by rw [hcl3 _ _ l2, World.cell?_setCell_other _ _ _ _ (by simp), hcl _ _ (by simp)]; simp [go_sem]
  have z10 : w3.frozen? ⟨w.heap.size + 1, 0, none⟩ = false := by rw [hfz3 _ _ l1, World.frozen?_setCell, hfz _ _ (by simp)]; simp [go_sem]
  have z11 : w3.frozen? ⟨w.heap.size + 1, 1, none⟩ = false := by rw [hfz3 _ _ l1, World.frozen?_setCell, hfz _ _ (by simp)]; simp [go_sem]
  have z21 : w3.frozen? ⟨w.heap.size + 1 + 1, 1, none⟩ = false := by rw [hfz3 _ _ l2, World.frozen?_setCell, hfz _ _ (by simp)]; simp [go_sem]
  clear hb3 hE3 hcl hfz hcl3 hfz3
  go_wp2
  refine bodyPost_ret (v := .agg #[.slice (some ⟨w.heap.size + 1 + 1 + 1, 0, none⟩) xs.length xs.length, .slice (some ⟨w1.heap.size, 0, none⟩) es.length es.length]) (by simp [results, Tryz.results11, go_sem, q10, q11, World.cell?_setCell_same', World.cell?_setCell_other]) rfl ⟨_, _, rfl, ?_, ?_, ?_⟩
  · simp only [Go.Deep.nblk_setCell]
    exact ((HA3.out.set (by simp <;> omega) _).set (by simp <;> omega) _).set (by simp <;> omega) _
  · simp only [Go.Deep.nblk_setCell]
    exact ((HE3.out.set (by simp <;> omega) _).set (by simp <;> omega) _).set (by simp <;> omega) _
  · exact ((HB3.out.setCell (by simp <;> omega) _).setCell (by simp <;> omega) _).setCell (by simp <;> omega) _
theorem szBook_u (w : World) (v : Value) (x : List Aff × List (ByteArray × ByteArray)) (left : Int) (h : BookAt w v x) (h0 : 0 ≤ left) (h1 : left ≤ 1048576) :
    Calls Tryz.prog 10 #[v, .int .i64 left] w fun e w' => (∃ r : Int, e = .returned (.int .i64 r) ∧ r ≤ left ∧ (0 ≤ r → BookSm x)) ∧ Below w.heap.size w w' := by
  obtain ⟨va, ve, rfl, ha, he⟩ := h
  exact szBook_r w va ve x.1 x.2 left ha he h0 h1
theorem toBook_u (w : World) (v : Value) (x : List Aff × List (ByteArray × ByteArray)) (h : BookAt w v x) (hs : BookSm x) :
    Calls Tryz.prog 11 #[v] w fun e w' => ∃ v', e = .returned v' ∧ BookOwn w.heap.size w'.heap.size w' v' x ∧ Below w.heap.size w w' := by
  obtain ⟨va, ve, rfl, ha, he⟩ := h
  refine (toBook_own w va ve x.1 x.2 ha he hs.1 hs.2).mono ?_
  rintro e w' ⟨va', ve', rfl, h1, h2, hb⟩
  exact ⟨_, rfl, ⟨va', ve', rfl, h1, h2⟩, hb⟩
theorem eqBook_u (w : World) (v u : Value) (x : List Aff × List (ByteArray × ByteArray)) (h : BookAt w v x) (h' : BookAt w u x) :
    Calls Tryz.prog 13 #[v, u] w fun e w' => e = .returned (.bool true) ∧ Below w.heap.size w w' := by
  obtain ⟨va, ve, rfl, ha, he⟩ := h
  obtain ⟨va', ve', rfl, ha', he'⟩ := h'
  exact eqBook_same w va ve va' ve' x.1 x.2 ha he ha' he'
set_option maxHeartbeats 1000000 in
theorem markBook_u (lo hi k : Nat) (w : World) (v : Value) (x : List Aff × List (ByteArray × ByteArray)) (h : BookOwn lo hi w v x) (hs : BookSm x) (hk : k ≤ 10000000000) (hlo : hi ≤ w.heap.size) (hlh : lo ≤ hi) :
    Calls Tryz.prog 14 #[v, .int .i64 k] w fun e w' => e = .returned (.int .i64 ((k + bookCnt x : Nat) : Int)) ∧ BookOwn lo hi w' v (bookMk k x) ∧ Wr lo hi w w' := by
  obtain ⟨va, ve, rfl, ha, he⟩ := h
  obtain ⟨xs, es⟩ := x
  simp only [bookCnt, bookMk, BookSm] at *
  have HA : Hid (AffsOwn lo hi w va xs) := ha
  have HE : Hid (EntsOwn lo hi w ve es) := he
  obtain ⟨hs1, hs2⟩ := hs
  have hlo2 : lo ≤ w.heap.size := by omega
  clear ha he
  have HB0 : Hid (Below w.heap.size w (w.alloc (.cells #[va, ve] 26))) := (Below.refl _ _).alloc (Nat.le_refl _) _
  go_enter Tryz.func14, Tryz.ntmps14
  go_wp2_with fail
  refine (markAffixS_any lo hi k _ va xs.length _ (HA.out.below HB0.out).1 (by omega) (by omega) (by simp; omega)).mono ?_
  rintro e w1 ⟨rfl, hA1, hw1, hg1⟩
  have HW1 : Hid (Wr lo hi w w1) := (Wr.of_below HB0.out hlo2).trans hw1
  have HA1 : Hid (AffsOwn lo hi w1 va (marksA k xs.length)) := hA1
  have HE1 : Hid (EntsOwn lo hi w1 ve es) := ⟨(HE.out.below HB0.out).1.apart (HA.out.below HB0.out).1 (by decide) hg1, HE.out.2⟩
  have c1 : w1.cell? ⟨w.heap.size, 1, none⟩ = some ve := by
    have hblk : w1.heap[w.heap.size]? = (w.alloc (.cells #[va, ve] 26)).heap[w.heap.size]? := hw1.2.2.1 _ (by omega) (by simp)
    rw [cell_of_row _ _ 1 _ _ _ (hblk.trans (heap_alloc_last _ _))]
    rfl
  have hz1 : w.heap.size < w1.heap.size := by have := hw1.sz; simp at this; omega
  clear hA1 hw1 hg1
  go_wp2_with fail
  refine (markEntryS_any lo hi (k + xs.length * 5) _ ve es.length _ HE1.out.1 (by omega) (by omega) (by omega)).mono ?_
  rintro e w2 ⟨rfl, hE2, hw2, hg2⟩
  have HW2 : Hid (Wr lo hi w w2) := HW1.out.trans hw2
  have HA2 : Hid (AffsOwn lo hi w2 va (marksA k xs.length)) := ⟨HA1.out.1.apart HE1.out.1 (by decide) hg2, HA1.out.2⟩
  have HE2 : Hid (EntsOwn lo hi w2 ve (marksE (k + xs.length * 5) es.length)) := hE2
  clear hE2 hw2 hg2
  go_wp2
  go_ret
  exact ⟨by push_cast; rw [Int.add_assoc]; rfl, ⟨va, ve, rfl, HA2.out, HE2.out⟩, HW2.out⟩
end Go.Proofs.YthedglgljehmgaaGreatDoor
/-
  Contracts of copies, marks and what holds them, in one form.
-/
namespace Go.Proofs.YthedglgljehmgaaGreatDoor
open Go.RowKit
set_option linter.unusedVariables false
theorem toAffixS_x (w : World) (v : Value) (x : List Aff) (h : AffsAt w v x) (hs : x.length ≤ 1048576) :
    Calls Tryz.prog 35 #[v] w fun e w' => ∃ v', e = .returned v' ∧ AffsOwn w.heap.size w'.heap.size w' v' x ∧ Below w.heap.size w w' :=
  (toAffixS_own w v x h hs).mono fun e w' ⟨h1, h2, h3⟩ => ⟨_, h1, h2, h3⟩
theorem markAffixS_x (lo hi k : Nat) (w : World) (v : Value) (x : List Aff) (h : AffsOwn lo hi w v x) (hs : x.length ≤ 1048576) (hk : k ≤ 10000000000) (hlo : hi ≤ w.heap.size) (hlh : lo ≤ hi) :
    Calls Tryz.prog 40 #[v, .int .i64 k] w fun e w' => e = .returned (.int .i64 ((k + x.length * 5 : Nat) : Int)) ∧ AffsOwn lo hi w' v (marksA k x.length) ∧ Wr lo hi w w' :=
  (markAffixS_any lo hi k w v x.length _ h.1 (by omega) (by omega) (by omega)).mono fun e w' ⟨h1, h2, h3, _⟩ => ⟨h1, h2, h3⟩
theorem toEntryS_x (w : World) (v : Value) (x : List (ByteArray × ByteArray)) (h : EntsAt w v x) (hs : x.length ≤ 1048576) :
    Calls Tryz.prog 36 #[v] w fun e w' => ∃ v', e = .returned v' ∧ EntsOwn w.heap.size w'.heap.size w' v' x ∧ Below w.heap.size w w' :=
  (toEntryS_own w v x h hs).mono fun e w' ⟨h1, h2, h3⟩ => ⟨_, h1, h2, h3⟩
end Go.Proofs.YthedglgljehmgaaGreatDoor
/-
  Small words for the walks of exact laws.
-/
namespace Go.Proofs.YthedglgljehmgaaGreatDoor
open Go.RowKit
set_option linter.unusedVariables false
/-- A number that is called by a letter. -/
theorem cK {P : Program} {f : FuncId} {args : Array Value} {w : World} {n K : Nat} {Q : World → Prop} (h : Calls P f args w fun e w' => e = .returned (.int .i64 (n : Int)) ∧ Q w') (hn : n = K) : Calls P f args w fun e w' => e = .returned (.int .i64 (K : Int)) ∧ Q w' := by
  subst hn
  exact h
theorem wr_cell {lo hi : Nat} {w w' : World} (h : Wr lo hi w w') {b : Nat} (i : Nat) (hp : b < lo ∨ hi ≤ b) (hlt : b < w.heap.size) : w'.cell? ⟨b, i, none⟩ = w.cell? ⟨b, i, none⟩ := by
  refine World.cell?_of_block (a := ⟨b, i, none⟩) ?_
  rcases hp with hp | hp
  · exact h.1.block b hp
  · exact h.2.2.1 b hp hlt
theorem cl {w w' : World} (h : Below w.heap.size w w') {b i : Nat} {v : Value} (hz : b < w.heap.size) (c : w.cell? ⟨b, i, none⟩ = some v) : w'.cell? ⟨b, i, none⟩ = some v := (h.cell (p := ⟨b, i, none⟩) hz).trans c
theorem clw {lo hi : Nat} {w w' : World} (h : Wr lo hi w w') {b i : Nat} {v : Value} (hp : b < lo ∨ hi ≤ b) (hz : b < w.heap.size) (c : w.cell? ⟨b, i, none⟩ = some v) : w'.cell? ⟨b, i, none⟩ = some v := (wr_cell h i hp hz).trans c
/- Of the type 26. -/
theorem BookAt.form2 {w : World} {v : Value} {x : List Aff × List (ByteArray × ByteArray)} (h : BookAt w v x) : ∃ a n c a' n' c', v = .agg #[.slice a n c, .slice a' n' c'] := by
  obtain ⟨va, ve, rfl, h1, h2⟩ := h
  obtain ⟨a, c, rfl, _⟩ := h1.form
  obtain ⟨a', c', rfl, _⟩ := h2.form
  exact ⟨_, _, _, _, _, _, rfl⟩
end Go.Proofs.YthedglgljehmgaaGreatDoor
/-
  Arguments of laws, opened: slices of affixes, of texts; an entry.
-/
namespace Go.Proofs.YthedglgljehmgaaGreatDoor
open Go.ChangeShapes Go.WideShapes Go.ChangeAt Go.RowKit
set_option linter.unusedVariables false
set_option maxRecDepth 100000 in
theorem open_affsV {H : Type} {enc : TypeId × Value → H} {w : World} {r : Reach} {b0 base : Nat} {spare : Nat → Bool} {held : Bool} {v : Value} {d : DataW H} {p : List MemPlace}
    (hv : Value.okWide Tryz.prog w r b0 36 v) (h : DataW.Trod enc Tryz.prog w base spare held 36 v d p) : ∃ xs, AffsAt w v xs := by
  obtain ⟨a0, len0, cap0, rfl⟩ := okWide_slice Tryz.underlying36 hv
  obtain ⟨fuel, hf⟩ := h
  exact open_affs (by simpa [Value.cells] using hf)
set_option maxRecDepth 100000 in
theorem open_textsV {H : Type} {enc : TypeId × Value → H} {w : World} {r : Reach} {b0 base : Nat} {spare : Nat → Bool} {held : Bool} {v : Value} {d : DataW H} {p : List MemPlace}
    (hv : Value.okWide Tryz.prog w r b0 53 v) (h : DataW.Trod enc Tryz.prog w base spare held 53 v d p) : ∃ xs, TextsAt w v xs := by
  obtain ⟨a0, len0, cap0, rfl⟩ := okWide_slice Tryz.underlying53 hv
  obtain ⟨fuel, hf⟩ := h
  exact open_texts (by simpa [Value.cells] using hf)
set_option maxRecDepth 100000 in
theorem open_entryV {H : Type} {enc : TypeId × Value → H} {w : World} {r : Reach} {b0 base : Nat} {spare : Nat → Bool} {held : Bool} {v : Value} {d : DataW H} {p : List MemPlace}
    (hv : Value.okWide Tryz.prog w r b0 103 v) (h : DataW.Trod enc Tryz.prog w base spare held 103 v d p) :
    ∃ st fl, v = .agg #[.string st, .string fl] ∧ st.size ≤ maxLen ∧ fl.size ≤ maxLen := by
  obtain ⟨cs, rfl, hsz⟩ := okWide_struct Tryz.underlying103 hv
  obtain ⟨c0, c1, rfl⟩ : ∃ va ve, cs = #[va, ve] := by
    have h2 : cs.size = 2 := hsz.trans (by kernel_rfl)
    obtain ⟨l⟩ := cs
    match l, h2 with
    | [x, y], _ => exact ⟨x, y, rfl⟩
  obtain ⟨fuel, hf⟩ := h
  obtain ⟨xs, n, rfl, hx, hl, hn, hall⟩ := DataW.trod_struct Tryz.underlying103 hf
  have k0 := hall 0 _ rfl
  have k1 := hall 1 _ rfl
  have o9 : Tryz.prog.cellsOf 9 = 1 := by kernel_rfl
  match xs, hn with
  | [y0, y1], _ =>
    simp [Value.cells, o9] at k0 k1
    obtain ⟨s0, e0, -, l0⟩ := DataW.trod_string Tryz.underlying9 k0
    obtain ⟨s1, e1, -, l1⟩ := DataW.trod_string Tryz.underlying9 k1
    simp only [List.cons.injEq, and_true] at e0 e1
    subst e0; subst e1
    exact ⟨s0, s1, rfl, l0, l1⟩
end Go.Proofs.YthedglgljehmgaaGreatDoor
/-
  Entries and affixes held against their marks; changes in one form.
-/
namespace Go.Proofs.YthedglgljehmgaaGreatDoor
open Go.RowKit
set_option linter.unusedVariables false
theorem box_cell {w w1 : World} {lo hi : Nat} {cs : Array Value} {t : TypeId} (hw : Wr lo hi (w.alloc (.cells cs t)) w1) (hlo : hi ≤ w.heap.size) (i : Nat) : w1.cell? ⟨w.heap.size, i, none⟩ = cs[i]? := by
  have hblk : w1.heap[w.heap.size]? = (w.alloc (.cells cs t)).heap[w.heap.size]? := hw.2.2.1 _ hlo (by simp)
  rw [cell_of_row _ _ i _ _ _ (hblk.trans (heap_alloc_last _ _))]
/- Of the types 77 and 80. -/
/-- Changes: what goes, what comes, whether affixes change, which. -/
abbrev DeltaM := List ByteArray × List (ByteArray × ByteArray) × Bool × List Aff
def DeltaAt (w : World) (v : Value) (x : DeltaM) : Prop := ∃ vg vc vl, v = .agg #[vg, vc, .bool x.2.2.1, vl] ∧ TextsAt w vg x.1 ∧ EntsAt w vc x.2.1 ∧ AffsAt w vl x.2.2.2
def DeltaOwn (lo hi : Nat) (w : World) (v : Value) (x : DeltaM) : Prop := ∃ vg vc vl, v = .agg #[vg, vc, .bool x.2.2.1, vl] ∧ TextsRow lo hi w vg x.1 ∧ EntsOwn lo hi w vc x.2.1 ∧ AffsOwn lo hi w vl x.2.2.2
def DeltaSm (x : DeltaM) : Prop := x.1.length ≤ 1048576 ∧ x.2.1.length ≤ 1048576 ∧ x.2.2.2.length ≤ 1048576
def deltaCnt (x : DeltaM) : Nat := x.1.length + x.2.1.length * 2 + x.2.2.2.length * 5
def deltaMk (k : Nat) (x : DeltaM) : DeltaM := (marks k x.1.length, marksE (k + x.1.length) x.2.1.length, x.2.2.1, marksA (k + x.1.length + x.2.1.length * 2) x.2.2.2.length)
theorem DeltaAt.form {w : World} {v : Value} {x : DeltaM} (h : DeltaAt w v x) : ∃ a b c d, v = .agg #[a, b, c, d] := by obtain ⟨vg, vc, vl, hv, _⟩ := h; exact ⟨_, _, _, _, hv⟩
theorem DeltaAt.form2 {w : World} {v : Value} {x : DeltaM} (h : DeltaAt w v x) : ∃ a n c a' n' c' b a'' n'' c'', v = .agg #[.slice a n c, .slice a' n' c', .bool b, .slice a'' n'' c''] := by
  obtain ⟨vg, vc, vl, rfl, h1, h2, h3⟩ := h
  obtain ⟨a, c, rfl, _⟩ := h1.form
  obtain ⟨a', c', rfl, _⟩ := h2.form
  obtain ⟨a'', c'', rfl, _⟩ := h3.form
  exact ⟨_, _, _, _, _, _, _, _, _, _, rfl⟩
theorem DeltaAt.below {w w' : World} {v : Value} {x : DeltaM} (h : DeltaAt w v x) (hb : Below w.heap.size w w') : DeltaAt w' v x := by
  obtain ⟨vg, vc, vl, hv, h1, h2, h3⟩ := h
  exact ⟨vg, vc, vl, hv, h1.below hb, h2.below hb, h3.below hb⟩
theorem DeltaOwn.at {lo hi : Nat} {w : World} {v : Value} {x : DeltaM} (h : DeltaOwn lo hi w v x) : DeltaAt w v x := by
  obtain ⟨vg, vc, vl, hv, h1, h2, h3⟩ := h
  exact ⟨vg, vc, vl, hv, h1.at, h2.at, h3.at⟩
theorem DeltaOwn.below {lo hi : Nat} {w w' : World} {v : Value} {x : DeltaM} (h : DeltaOwn lo hi w v x) (hb : Below w.heap.size w w') : DeltaOwn lo hi w' v x := by
  obtain ⟨vg, vc, vl, hv, h1, h2, h3⟩ := h
  exact ⟨vg, vc, vl, hv, h1.below hb, h2.below hb, h3.below hb⟩
theorem DeltaOwn.wr {lo hi l h' : Nat} {w w' : World} {v : Value} {x : DeltaM} (h : DeltaOwn lo hi w v x) (hw : Wr l h' w w') (hl : h' ≤ lo) : DeltaOwn lo hi w' v x := by
  obtain ⟨vg, vc, vl, hv, h1, h2, h3⟩ := h
  exact ⟨vg, vc, vl, hv, h1.wr hw hl, h2.wr hw hl, h3.wr hw hl⟩
end Go.Proofs.YthedglgljehmgaaGreatDoor
