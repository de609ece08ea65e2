/-
  Memory that is one's own, by types, in one form: texts, affixes, entries, books.
-/
import Derived.Test.YtkepmjebnkcbgaaGreatDoorW134
import Derived.Test.YtkepmjebnkcbgaaGreatDoorGW78
import Derived.Test.YtkepmjebnkcbgaaGreatDoorGW112
import Derived.Test.YtkepmjebnkcbgaaGreatDoorW71
import Derived.Test.YtkepmjebnkcbgaaGreatDoorW340
import Derived.Test.YtkepmjebnkcbgaaGreatDoorGW2
import Derived.WalkKit
import Derived.ProofKit
import Derived.OpenShut
import Derived.ShutString
import Derived.ChangeOld
import Derived.Below
import Derived.Deep.RegionHeld3
import Derived.Deep.QuietTactic
import Derived.BigQuiet
namespace Go.Proofs.YtkepmjebnkcbgaaGreatDoor
open Go.RowKit
set_option linter.unusedVariables false
/-- Texts so far. -/
def TxTo (k : Nat) (xs : List ByteArray) (f : Nat → Value) : Prop := ∀ (j : Nat) (x : ByteArray), j < k → xs[j]? = some x → f j = .string x
/-- Texts in a row of their own. -/
def TextsRow (lo hi : Nat) (w : World) (v : Value) (xs : List ByteArray) : Prop :=
  RowOwn 9 1 lo hi w v xs.length (TxTo xs.length xs) ∧ ∀ (i : Nat) (x : ByteArray), xs[i]? = some x → x.size ≤ maxLen
theorem TextsRow.at {lo hi : Nat} {w : World} {v : Value} {xs : List ByteArray} (h : TextsRow lo hi w v xs) : TextsAt w v xs := by
  obtain ⟨⟨a, cap, hv, hc, hm, hh⟩, hf⟩ := h
  refine ⟨a, cap, hv, hc, Nat.le_trans hc hm, hf, fun hn => ?_⟩
  obtain ⟨g, m, f, ha, _, _, hle, hr, hx⟩ := hh (fun e => hn (List.length_eq_zero_iff.1 e))
  refine ⟨g, 0, ha, hr.lt, fun i x hi => ?_⟩
  have hlt : i < xs.length := (List.getElem?_eq_some_iff.1 hi).1
  rw [Nat.zero_add]
  exact (hr.cell (by omega)).trans (by rw [hx i x hlt hi])
theorem TextsRow.below {lo hi : Nat} {w w' : World} {v : Value} {xs : List ByteArray} (h : TextsRow lo hi w v xs) (hb : Below w.heap.size w w') : TextsRow lo hi w' v xs := ⟨h.1.below hb, h.2⟩
theorem TextsRow.wr {lo hi l h' : Nat} {w w' : World} {v : Value} {xs : List ByteArray} (h : TextsRow lo hi w v xs) (hw : Wr l h' w w') (hl : h' ≤ lo) : TextsRow lo hi w' v xs := ⟨h.1.wr hw hl, h.2⟩
theorem TextsRow.weak {lo hi lo' hi' : Nat} {w : World} {v : Value} {xs : List ByteArray} (h : TextsRow lo hi w v xs) (h1 : lo' ≤ lo) (h2 : hi ≤ hi') : TextsRow lo' hi' w v xs := ⟨h.1.weak h1 h2, h.2⟩
theorem RowOwn.set {t : TypeId} {size lo hi G : Nat} {w : World} {n n' c : Nat} {C : (Nat → Value) → Prop} (h : RowOwn t size lo hi w (.slice (some ⟨G, 0, none⟩) n c) n' C) {p : Addr} (hp : G ≠ p.block) (u : Value) : RowOwn t size lo hi (w.setCell p u) (.slice (some ⟨G, 0, none⟩) n c) n' C :=
  h.block fun g _ _ hg _ _ => by
    have e : g = G := by simp [Value.ownBlock] at hg; exact hg.symm
    subst e
    exact Below.heap_setCell _ _ _ g hp
theorem TextsRow.set {lo hi G : Nat} {w : World} {n c : Nat} {xs : List ByteArray} (h : TextsRow lo hi w (.slice (some ⟨G, 0, none⟩) n c) xs) {p : Addr} (hp : G ≠ p.block) (u : Value) : TextsRow lo hi (w.setCell p u) (.slice (some ⟨G, 0, none⟩) n c) xs := ⟨h.1.set hp u, h.2⟩
/- Of the types 87 and 89. -/
theorem AffsOwn.weak {lo hi lo' hi' : Nat} {w : World} {v : Value} {xs : List Aff} (h : AffsOwn lo hi w v xs) (h1 : lo' ≤ lo) (h2 : hi ≤ hi') : AffsOwn lo' hi' w v xs := ⟨h.1.weak h1 h2, h.2⟩
theorem EntsOwn.weak {lo hi lo' hi' : Nat} {w : World} {v : Value} {xs : List (ByteArray × ByteArray)} (h : EntsOwn lo hi w v xs) (h1 : lo' ≤ lo) (h2 : hi ≤ hi') : EntsOwn lo' hi' w v xs := ⟨h.1.weak h1 h2, h.2⟩
theorem AffsOwn.set {lo hi G : Nat} {w : World} {n c : Nat} {xs : List Aff} (h : AffsOwn lo hi w (.slice (some ⟨G, 0, none⟩) n c) xs) {p : Addr} (hp : G ≠ p.block) (u : Value) : AffsOwn lo hi (w.setCell p u) (.slice (some ⟨G, 0, none⟩) n c) xs := ⟨h.1.set hp u, h.2⟩
theorem EntsOwn.set {lo hi G : Nat} {w : World} {n c : Nat} {xs : List (ByteArray × ByteArray)} (h : EntsOwn lo hi w (.slice (some ⟨G, 0, none⟩) n c) xs) {p : Addr} (hp : G ≠ p.block) (u : Value) : EntsOwn lo hi (w.setCell p u) (.slice (some ⟨G, 0, none⟩) n c) xs := ⟨h.1.set hp u, h.2⟩
/-- Books. -/
def BookAt (w : World) (v : Value) (x : List Aff × List (ByteArray × ByteArray)) : Prop := ∃ va ve, v = .agg #[va, ve] ∧ AffsAt w va x.1 ∧ EntsAt w ve x.2
def BookOwn (lo hi : Nat) (w : World) (v : Value) (x : List Aff × List (ByteArray × ByteArray)) : Prop := ∃ va ve, v = .agg #[va, ve] ∧ AffsOwn lo hi w va x.1 ∧ EntsOwn lo hi w ve x.2
def BookSm (x : List Aff × List (ByteArray × ByteArray)) : Prop := x.1.length ≤ 1048576 ∧ x.2.length ≤ 1048576
def bookCnt (x : List Aff × List (ByteArray × ByteArray)) : Nat := x.1.length * 5 + x.2.length * 2
def bookMk (k : Nat) (x : List Aff × List (ByteArray × ByteArray)) : List Aff × List (ByteArray × ByteArray) := (marksA k x.1.length, marksE (k + x.1.length * 5) x.2.length)
theorem BookAt.form {w : World} {v : Value} {x : List Aff × List (ByteArray × ByteArray)} (h : BookAt w v x) : ∃ va ve, v = .agg #[va, ve] := by obtain ⟨va, ve, hv, _⟩ := h; exact ⟨va, ve, hv⟩
theorem BookAt.below {w w' : World} {v : Value} {x : List Aff × List (ByteArray × ByteArray)} (h : BookAt w v x) (hb : Below w.heap.size w w') : BookAt w' v x := by
  obtain ⟨va, ve, hv, h1, h2⟩ := h
  exact ⟨va, ve, hv, h1.below hb, h2.below hb⟩
theorem BookOwn.at {lo hi : Nat} {w : World} {v : Value} {x : List Aff × List (ByteArray × ByteArray)} (h : BookOwn lo hi w v x) : BookAt w v x := by
  obtain ⟨va, ve, hv, h1, h2⟩ := h
  exact ⟨va, ve, hv, h1.at, h2.at⟩
theorem BookOwn.below {lo hi : Nat} {w w' : World} {v : Value} {x : List Aff × List (ByteArray × ByteArray)} (h : BookOwn lo hi w v x) (hb : Below w.heap.size w w') : BookOwn lo hi w' v x := by
  obtain ⟨va, ve, hv, h1, h2⟩ := h
  exact ⟨va, ve, hv, h1.below hb, h2.below hb⟩
theorem BookOwn.wr {lo hi l h' : Nat} {w w' : World} {v : Value} {x : List Aff × List (ByteArray × ByteArray)} (h : BookOwn lo hi w v x) (hw : Wr l h' w w') (hl : h' ≤ lo) : BookOwn lo hi w' v x := by
  obtain ⟨va, ve, hv, h1, h2⟩ := h
  exact ⟨va, ve, hv, h1.wr hw hl, h2.wr hw hl⟩
set_option maxHeartbeats 1000000 in
theorem toStringS_own (w : World) (v : Value) (xs : List ByteArray) (h : TextsAt w v xs) (hn : xs.length ≤ 1048576) :
    Calls Tryz.prog 26 #[v] w fun e w' => e = .returned (.slice (some ⟨w.heap.size, 0, none⟩) xs.length xs.length) ∧ TextsRow w.heap.size w'.heap.size w' (.slice (some ⟨w.heap.size, 0, none⟩) xs.length xs.length) xs ∧ Below w.heap.size w w' := by
  have hfit := h.fit
  obtain ⟨a, cap, rfl, hc, hm⟩ := h.form
  have HS : Hid (TextsAt w (.slice a xs.length cap) xs) := h
  have HFI : Hid (∀ (i : Nat) (x : ByteArray), xs[i]? = some x → x.size ≤ maxLen) := hfit
  clear h hfit
  unfold maxLen at hm
  have hmk := run_make_row' (P := Tryz.prog) 22 9 (.string ⟨#[]⟩) 16 Tryz.underlying22 Tryz.info_text rfl .i64 .i64 xs.length (by omega) (by omega)
  have HF : Hid ((w.alloc (.cells (madeCells #[.string ⟨#[]⟩] xs.length) 9)).rowIs w.heap.size 9 xs.length (fun _ => .string ⟨#[]⟩)) := World.rowIs_made w (.string ⟨#[]⟩) xs.length 9
  go_enter Tryz.func26, Tryz.ntmps26
  go_wp2
  go_loopw [4] (fun i wr => ∃ (k : Nat) (f : Nat → Value), k ≤ xs.length ∧ i = .int .i64 k ∧ wr.rowIs w.heap.size 9 xs.length f ∧ (∀ (j : Nat) (x : ByteArray), j < k → xs[j]? = some x → f j = .string x) ∧ Below w.heap.size w wr) (fun i _ => xs.length - (intOf i).toNat)
  case atStart => exact ⟨0, _, Nat.zero_le _, rfl, HF.out, fun j s hj => absurd hj (by omega), (Below.refl _ _).alloc (Nat.le_refl _) _⟩
  case round =>
    obtain ⟨k, f, hk, rfl, hrow, hall, hb⟩ := hrel
    have HA : Hid (∀ (j : Nat) (x : ByteArray), j < k → xs[j]? = some x → f j = .string x) := hall
    have HB : Hid (Below w.heap.size w wr) := hb
    have HW : Hid (wr.rowIs w.heap.size 9 xs.length f) := hrow
    clear hall hb hrow
    by_cases hlt : k < xs.length
    · obtain ⟨b, off, cap', x, hv, hbl, hx, hxf, e0⟩ := (HS.out.below HB.out).at hlt
      cases hv
      have HX : Hid (xs[k]? = some x) := hx
      have d0 := HW.out.cell (i := k) hlt
      have g0 := HW.out.frozen k
      clear hx hxf
      go_wp2
      go_roundw
      case rel =>
        refine ⟨k + 1, _, by omega, by go_num, HW.out.set k _, fun j y hj hy => ?_, HB.out.setCell (Nat.le_refl _) _⟩
        by_cases e : j = k
        · subst e
          rw [HX.out] at hy
          cases hy
          simp
        · simp only [e, if_false]
          exact HA.out j y (by omega) hy
      case measure => simp [intOf]; omega
    · obtain rfl : k = xs.length := by omega
      go_wp2
      go_ret
      exact ⟨rfl, ⟨⟨_, _, rfl, Nat.le_refl _, by unfold maxLen; omega, fun _ => ⟨w.heap.size, _, f, rfl, Nat.le_refl _, HW.out.lt, by omega, HW.out, HA.out⟩⟩, HFI.out⟩, HB.out⟩
set_option maxHeartbeats 1000000 in
theorem szBook_r (w : World) (va ve : Value) (xs : List Aff) (es : List (ByteArray × ByteArray)) (left : Int) (ha : AffsAt w va xs) (he : EntsAt w ve es) (h0 : 0 ≤ left) (h1 : left ≤ 1048576) :
    Calls Tryz.prog 6 #[.agg #[va, ve], .int .i64 left] w fun e w' => (∃ r : Int, e = .returned (.int .i64 r) ∧ r ≤ left ∧ (0 ≤ r → xs.length ≤ 1048576 ∧ es.length ≤ 1048576)) ∧ Below w.heap.size w w' := by
  obtain ⟨a, cap, rfl, hc, hm⟩ := ha.form
  obtain ⟨a', cap', rfl, hc', hm'⟩ := he.form
  have HA : Hid (AffsAt w (.slice a xs.length cap) xs) := ha
  have HE : Hid (EntsAt w (.slice a' es.length cap') es) := he
  clear ha he
  go_enter Tryz.func6, Tryz.ntmps6
  go_wp2_with fail
  refine (szAffixS_any _ _ xs _ (HA.out.below ((Below.refl _ _).alloc (Nat.le_refl _) _)) (by omega) (by omega)).mono ?_
  rintro e w1 ⟨⟨r, rfl, hr1, hr2⟩, hb1⟩
  have HB1 : Hid (Below w.heap.size w w1) := Below.trans ((Below.refl _ _).alloc (Nat.le_refl _) _) (hb1.mono (by simp <;> omega))
  have HR : Hid (0 ≤ r → xs.length ≤ 1048576) := hr2
  have hcl : w1.cell? ⟨w.heap.size, 1, none⟩ = some (.slice a' es.length cap') := (hb1.cell (p := ⟨w.heap.size, 1, none⟩) (by simp)).trans (by simp [go_sem])
  have hz : w.heap.size < w1.heap.size := by have := hb1.size; simp at this; omega
  clear hb1 hr2
  by_cases hr : r < 0
  · go_wp2
    go_ret
    exact ⟨⟨-1, rfl, by omega, by omega⟩, HB1.out⟩
  · go_wp2_with fail
    refine (szEntryS_any _ _ es _ (HE.out.below HB1.out) (by omega) (by omega)).mono ?_
    rintro e w2 ⟨⟨q, rfl, hq1, hq2⟩, hb2⟩
    have HB2 : Hid (Below w.heap.size w w2) := HB1.out.trans (hb2.mono HB1.out.size)
    have HQ : Hid (0 ≤ q → es.length ≤ 1048576) := hq2
    clear hb2 hq2 hcl
    by_cases hq : q < 0
    · go_wp2
      go_ret
      exact ⟨⟨-1, rfl, by omega, by omega⟩, HB2.out⟩
    · go_wp2
      go_ret
      exact ⟨⟨q, rfl, by omega, fun _ => ⟨HR.out (by omega), HQ.out (by omega)⟩⟩, HB2.out⟩
set_option maxHeartbeats 1000000 in
theorem toBook_own (w : World) (va ve : Value) (xs : List Aff) (es : List (ByteArray × ByteArray)) (ha : AffsAt w va xs) (he : EntsAt w ve es) (hn : xs.length ≤ 1048576) (hn' : es.length ≤ 1048576) :
    Calls Tryz.prog 9 #[.agg #[va, ve]] w fun e w' => ∃ va' ve', e = .returned (.agg #[va', ve']) ∧ AffsOwn w.heap.size w'.heap.size w' va' xs ∧ EntsOwn w.heap.size w'.heap.size w' ve' es ∧ Below w.heap.size w w' := by
  obtain ⟨a, cap, rfl, hc, hm⟩ := ha.form
  obtain ⟨a', cap', rfl, hc', hm'⟩ := he.form
  have HA : Hid (AffsAt w (.slice a xs.length cap) xs) := ha
  have HE : Hid (EntsAt w (.slice a' es.length cap') es) := he
  clear ha he
  go_enter Tryz.func9, Tryz.ntmps9
  go_wp2_with fail
  refine (toAffixS_own _ _ xs (HA.out.below ?b1) hn).mono ?_
  case b1 => exact (((Below.refl _ _).alloc (Nat.le_refl _) _).alloc (by simp) _).alloc (by simp <;> omega) _
  rintro e w1 ⟨rfl, hA1, hb1⟩
  have HB1 : Hid (Below w.heap.size w w1) := Below.trans ((((Below.refl _ _).alloc (Nat.le_refl _) _).alloc (by simp) _).alloc (by simp <;> omega) _) (hb1.mono (by simp <;> omega))
  obtain ⟨hcl, hfz⟩ := bcell7 hb1
  have hz := hb1.size
  simp only [World.size_alloc] at hA1
  have HA1 : Hid (AffsOwn (w.heap.size + 1 + 1 + 1) w1.heap.size w1 (.slice (some ⟨w.heap.size + 1 + 1 + 1, 0, none⟩) xs.length xs.length) xs) := hA1
  simp at hz
  clear hb1 hA1
  go_wp2_with fail
  refine (toEntryS_own _ _ es (HE.out.below (HB1.out.setCell (by simp <;> omega) _)) hn').mono ?_
  rintro e w3 ⟨rfl, hE3, hb3⟩
  have HB3 : Hid (Below w.heap.size w w3) := (HB1.out.setCell (by simp <;> omega) _).trans (hb3.mono (by rw [Go.Deep.nblk_setCell]; omega))
  obtain ⟨hcl3, hfz3⟩ := bcell7 hb3
  have hz3 := hb3.size
  rw [Go.Deep.nblk_setCell] at hz3
  have HA3 : Hid (AffsOwn w.heap.size w3.heap.size w3 (.slice (some ⟨w.heap.size + 1 + 1 + 1, 0, none⟩) xs.length xs.length) xs) := ((HA1.out.weak (by omega) (by omega)).set (p := ⟨w.heap.size + 1 + 1, 0, none⟩) (by simp) _).below hb3
  rw [Go.Deep.nblk_setCell] at hE3 ⊢
  have HE3 : Hid (EntsOwn w.heap.size w3.heap.size w3 (.slice (some ⟨w1.heap.size, 0, none⟩) es.length es.length) es) := hE3.weak (by omega) (Nat.le_refl _)
  simp only [Go.Deep.nblk_setCell] at hcl3 hfz3
  have l1 : w.heap.size + 1 < w1.heap.size := by omega
  have l2 : w.heap.size + 1 + 1 < w1.heap.size := by omega
  have q10 : w3.cell? ⟨w.heap.size + 1, 0, none⟩ = some (.slice none 0 0) := by rw [hcl3 _ _ l1, World.cell?_setCell_other _ _ _ _ (by simp), hcl _ _ (by simp)]; simp [go_sem]
  have q11 : w3.cell? ⟨w.heap.size + 1, 1, none⟩ = some (.slice none 0 0) := by rw [hcl3 _ _ l1, World.cell?_setCell_other _ _ _ _ (by simp), hcl _ _ (by simp)]; simp [go_sem]
  have q20 : w3.cell? ⟨w.heap.size + 1 + 1, 0, none⟩ = some (.slice (some ⟨w.heap.size + 1 + 1 + 1, 0, none⟩) xs.length xs.length) := by rw [hcl3 _ _ l2]; exact World.cell?_setCell_same' _ _ _ (by rw [hcl _ _ (by simp)]; simp [go_sem])
  have q21 : w3.cell? ⟨w.heap.size + 1 + 1, 1, none⟩ = some (.slice none 0 0) := by rw [hcl3 _ _ l2, World.cell?_setCell_other _ _ _ _ (by simp), hcl _ _ (by simp)]; simp [go_sem]
  have z10 : w3.frozen? ⟨w.heap.size + 1, 0, none⟩ = false := by rw [hfz3 _ _ l1, World.frozen?_setCell, hfz _ _ (by simp)]; simp [go_sem]
  have z11 : w3.frozen? ⟨w.heap.size + 1, 1, none⟩ = false := by rw [hfz3 _ _ l1, World.frozen?_setCell, hfz _ _ (by simp)]; simp [go_sem]
  have z21 : w3.frozen? ⟨w.heap.size + 1 + 1, 1, none⟩ = false := by rw [hfz3 _ _ l2, World.frozen?_setCell, hfz _ _ (by simp)]; simp [go_sem]
  clear hb3 hE3 hcl hfz hcl3 hfz3
  go_wp2
  refine bodyPost_ret (v := .agg #[.slice (some ⟨w.heap.size + 1 + 1 + 1, 0, none⟩) xs.length xs.length, .slice (some ⟨w1.heap.size, 0, none⟩) es.length es.length]) (by simp [results, Tryz.results9, go_sem, q10, q11, World.cell?_setCell_same', World.cell?_setCell_other]) rfl ⟨_, _, rfl, ?_, ?_, ?_⟩
  · simp only [Go.Deep.nblk_setCell]
    exact ((HA3.out.set (by simp <;> omega) _).set (by simp <;> omega) _).set (by simp <;> omega) _
  · simp only [Go.Deep.nblk_setCell]
    exact ((HE3.out.set (by simp <;> omega) _).set (by simp <;> omega) _).set (by simp <;> omega) _
  · exact ((HB3.out.setCell (by simp <;> omega) _).setCell (by simp <;> omega) _).setCell (by simp <;> omega) _
theorem szBook_u (w : World) (v : Value) (x : List Aff × List (ByteArray × ByteArray)) (left : Int) (h : BookAt w v x) (h0 : 0 ≤ left) (h1 : left ≤ 1048576) :
    Calls Tryz.prog 6 #[v, .int .i64 left] w fun e w' => (∃ r : Int, e = .returned (.int .i64 r) ∧ r ≤ left ∧ (0 ≤ r → BookSm x)) ∧ Below w.heap.size w w' := by
  obtain ⟨va, ve, rfl, ha, he⟩ := h
  exact szBook_r w va ve x.1 x.2 left ha he h0 h1
theorem toBook_u (w : World) (v : Value) (x : List Aff × List (ByteArray × ByteArray)) (h : BookAt w v x) (hs : BookSm x) :
    Calls Tryz.prog 9 #[v] w fun e w' => ∃ v', e = .returned v' ∧ BookOwn w.heap.size w'.heap.size w' v' x ∧ Below w.heap.size w w' := by
  obtain ⟨va, ve, rfl, ha, he⟩ := h
  refine (toBook_own w va ve x.1 x.2 ha he hs.1 hs.2).mono ?_
  rintro e w' ⟨va', ve', rfl, h1, h2, hb⟩
  exact ⟨_, rfl, ⟨va', ve', rfl, h1, h2⟩, hb⟩
theorem eqBook_u (w : World) (v u : Value) (x : List Aff × List (ByteArray × ByteArray)) (h : BookAt w v x) (h' : BookAt w u x) :
    Calls Tryz.prog 13 #[v, u] w fun e w' => e = .returned (.bool true) ∧ Below w.heap.size w w' := by
  obtain ⟨va, ve, rfl, ha, he⟩ := h
  obtain ⟨va', ve', rfl, ha', he'⟩ := h'
  exact eqBook_same w va ve va' ve' x.1 x.2 ha he ha' he'
set_option maxHeartbeats 1000000 in
theorem markBook_u (lo hi k : Nat) (w : World) (v : Value) (x : List Aff × List (ByteArray × ByteArray)) (h : BookOwn lo hi w v x) (hs : BookSm x) (hk : k ≤ 10000000000) (hlo : hi ≤ w.heap.size) (hlh : lo ≤ hi) :
    Calls Tryz.prog 15 #[v, .int .i64 k] w fun e w' => e = .returned (.int .i64 ((k + bookCnt x : Nat) : Int)) ∧ BookOwn lo hi w' v (bookMk k x) ∧ Wr lo hi w w' := by
  obtain ⟨va, ve, rfl, ha, he⟩ := h
  obtain ⟨xs, es⟩ := x
  simp only [bookCnt, bookMk, BookSm] at *
  have HA : Hid (AffsOwn lo hi w va xs) := ha
  have HE : Hid (EntsOwn lo hi w ve es) := he
  obtain ⟨hs1, hs2⟩ := hs
  have hlo2 : lo ≤ w.heap.size := by omega
  clear ha he
  have HB0 : Hid (Below w.heap.size w (w.alloc (.cells #[va, ve] 43))) := (Below.refl _ _).alloc (Nat.le_refl _) _
  go_enter Tryz.func15, Tryz.ntmps15
  go_wp2_with fail
  refine (markAffixS_any lo hi k _ va xs.length _ (HA.out.below HB0.out).1 (by omega) (by omega) (by simp; omega)).mono ?_
  rintro e w1 ⟨rfl, hA1, hw1, hg1⟩
  have HW1 : Hid (Wr lo hi w w1) := (Wr.of_below HB0.out hlo2).trans hw1
  have HA1 : Hid (AffsOwn lo hi w1 va (marksA k xs.length)) := hA1
  have HE1 : Hid (EntsOwn lo hi w1 ve es) := ⟨(HE.out.below HB0.out).1.apart (HA.out.below HB0.out).1 (by decide) hg1, HE.out.2⟩
  have c1 : w1.cell? ⟨w.heap.size, 1, none⟩ = some ve := by
    have hblk : w1.heap[w.heap.size]? = (w.alloc (.cells #[va, ve] 43)).heap[w.heap.size]? := hw1.2.2.1 _ (by omega) (by simp)
    rw [cell_of_row _ _ 1 _ _ _ (hblk.trans (heap_alloc_last _ _))]
    rfl
  have hz1 : w.heap.size < w1.heap.size := by have := hw1.sz; simp at this; omega
  clear hA1 hw1 hg1
  go_wp2_with fail
  refine (markEntryS_any lo hi (k + xs.length * 5) _ ve es.length _ HE1.out.1 (by omega) (by omega) (by omega)).mono ?_
  rintro e w2 ⟨rfl, hE2, hw2, hg2⟩
  have HW2 : Hid (Wr lo hi w w2) := HW1.out.trans hw2
  have HA2 : Hid (AffsOwn lo hi w2 va (marksA k xs.length)) := ⟨HA1.out.1.apart HE1.out.1 (by decide) hg2, HA1.out.2⟩
  have HE2 : Hid (EntsOwn lo hi w2 ve (marksE (k + xs.length * 5) es.length)) := hE2
  clear hE2 hw2 hg2
  go_wp2
  go_ret
  exact ⟨by push_cast; rw [Int.add_assoc]; rfl, ⟨va, ve, rfl, HA2.out, HE2.out⟩, HW2.out⟩
end Go.Proofs.YtkepmjebnkcbgaaGreatDoor
/-
  Contracts of copies, marks and what holds them, in one form.
-/
namespace Go.Proofs.YtkepmjebnkcbgaaGreatDoor
open Go.RowKit
set_option linter.unusedVariables false
set_option maxHeartbeats 1000000 in
theorem markStringS_r (lo hi k : Nat) (w : World) (v : Value) (n : Nat) (C : (Nat → Value) → Prop) (h : RowOwn 9 1 lo hi w v n C) (hn : n ≤ 2000000000) (hk : k ≤ 100000000000) (hlo : lo ≤ w.heap.size) :
    Calls Tryz.prog 36 #[v, .int .i64 k] w fun e w' => e = .returned (.int .i64 ((k + n : Nat) : Int)) ∧ TextsRow lo hi w' v (marks k n) ∧ Wr lo hi w w' ∧ w.grownBy w' (rowOf v n) := by
  obtain ⟨a, cap, rfl, hc, hm, hh⟩ := h
  have HC : Hid (cap ≤ maxLen) := hm
  have HMF : Hid (∀ (i : Nat) (x : ByteArray), (marks k n)[i]? = some x → x.size ≤ maxLen) := fun i x hx => by
    have hi : i < n := by have := (List.getElem?_eq_some_iff.1 hx).1; rwa [marks_length] at this
    rw [marks_at hi] at hx
    cases hx
    exact markT_fit _
  unfold maxLen at hm
  by_cases h0 : n = 0
  · subst h0
    clear hh
    have HR : Hid (TextsRow lo hi w (.slice a 0 cap) (marks k 0)) := ⟨⟨a, cap, rfl, hc, HC.out, fun hh => absurd rfl hh⟩, HMF.out⟩
    go_enter Tryz.func36, Tryz.ntmps36
    go_wp2
    go_loopw [1, 5] (fun kv i wr => kv = .int .i64 k ∧ i = .int .i64 0 ∧ wr = w) (fun _ i _ => 0)
    case atStart => exact ⟨rfl, rfl, rfl⟩
    case round =>
      obtain ⟨rfl, rfl, rfl⟩ := hrel
      go_wp2
      go_ret
      exact ⟨by simp, HR.out, Wr.refl _ _ _, grown_refl _ _⟩
  · obtain ⟨g, m, f0, rfl, hg, hgh, hle, hr, _⟩ := hh h0
    have HR : Hid (w.rowIs g 9 m f0) := hr
    clear hr hh
    go_enter Tryz.func36, Tryz.ntmps36
    go_wp2
    go_loopw [1, 5] (fun kv i wr => ∃ (j : Nat) (f : Nat → Value), j ≤ n ∧ kv = .int .i64 (k + j) ∧ i = .int .i64 j ∧ wr.rowIs g 9 m f ∧ TxTo j (marks k n) f ∧ Wr lo hi w wr ∧ w.grownBy wr (some g)) (fun _ i _ => n - (intOf i).toNat)
    case atStart => exact ⟨0, f0, Nat.zero_le _, by simp, rfl, HR.out, fun j x hj => absurd hj (by omega), Wr.refl _ _ _, grown_refl _ _⟩
    case round =>
      obtain ⟨j, f, hj, rfl, rfl, hr, ha, hw, hb⟩ := hrel
      have HB : Hid (w.grownBy wr (some g)) := hb
      have HW : Hid (wr.rowIs g 9 m f) := hr
      have HA : Hid (TxTo j (marks k n) f) := ha
      have HR2 : Hid (Wr lo hi w wr) := hw
      have hlr : lo ≤ wr.heap.size := Nat.le_trans hlo hw.sz
      clear hb hr ha hw
      by_cases hlt : j < n
      · have HX : Hid ((marks k n)[j]? = some (markT (k + j))) := marks_at hlt
        have hm1 := markT_size (k + j)
        go_wp2_with fail
        refine (markText_int _ (k + j) (by push_cast; omega) (by omega) _).mono ?_
        rintro e w1 ⟨rfl, hb1⟩
        have HW1 : Hid (w1.rowIs g 9 m f) := HW.out.of_block (hb1.block g HW.out.lt)
        have HR3 : Hid (Wr lo hi w w1) := HR2.out.trans (Wr.of_below hb1 hlr)
        have HB1 : Hid (w.grownBy w1 (some g)) := grown_trans HB.out (grown_of_below _ hb1)
        have d0 := HW1.out.cell (i := j) (by omega)
        have g0 := HW1.out.frozen j
        clear hb1
        go_wp2
        go_roundw
        case rel =>
          refine ⟨j + 1, _, by omega, by go_num, by go_num, HW1.out.set j _, fun i x hi hx => ?_, HR3.out.trans (Wr.set w1 (p := ⟨g, j, none⟩) hg hgh rfl _), grown_trans HB1.out (grown_set _ _ _ _)⟩
          by_cases e : i = j
          · subst e
            rw [HX.out] at hx
            cases hx
            exact if_pos rfl
          · show (if i = j then _ else f i) = _
            rw [if_neg e]
            exact HA.out i x (by omega) hx
        case measure => simp [intOf]; omega
      · have hje : j = n := by omega
        subst hje
        go_wp2
        go_ret
        refine ⟨by push_cast; rfl, ⟨⟨_, cap, by rw [marks_length], by rw [marks_length]; exact hc, HC.out, fun _ => ⟨g, m, f, rfl, hg, hgh, by rw [marks_length]; exact hle, HW.out, by rw [marks_length]; exact HA.out⟩⟩, HMF.out⟩, HR2.out, by rw [rowOf_pos h0]; exact HB.out⟩
theorem heldStringS_x (w : World) (v : Value) (k : Nat) (x : List ByteArray) (h : TextsAt w v (marks k x.length)) (hs : x.length ≤ 1048576) (hk : k ≤ 1000000000) :
    Calls Tryz.prog 67 #[v, .int .i64 k] w fun e w' => e = .returned (.int .i64 ((k + x.length : Nat) : Int)) ∧ Below w.heap.size w w' := by
  refine (heldStringS_any k x.length w v h (by omega) (by omega)).mono ?_
  rintro e w' ⟨rfl, hb⟩
  exact ⟨by push_cast; rfl, hb⟩
end Go.Proofs.YtkepmjebnkcbgaaGreatDoor
/-
  Small words for the walks of exact laws.
-/
namespace Go.Proofs.YtkepmjebnkcbgaaGreatDoor
open Go.RowKit
set_option linter.unusedVariables false
/-- A number that is called by a letter. -/
theorem cK {P : Program} {f : FuncId} {args : Array Value} {w : World} {n K : Nat} {Q : World → Prop} (h : Calls P f args w fun e w' => e = .returned (.int .i64 (n : Int)) ∧ Q w') (hn : n = K) : Calls P f args w fun e w' => e = .returned (.int .i64 (K : Int)) ∧ Q w' := by
  subst hn
  exact h
theorem wr_cell {lo hi : Nat} {w w' : World} (h : Wr lo hi w w') {b : Nat} (i : Nat) (hp : b < lo ∨ hi ≤ b) (hlt : b < w.heap.size) : w'.cell? ⟨b, i, none⟩ = w.cell? ⟨b, i, none⟩ := by
  refine World.cell?_of_block (a := ⟨b, i, none⟩) ?_
  rcases hp with hp | hp
  · exact h.1.block b hp
  · exact h.2.2.1 b hp hlt
theorem cl {w w' : World} (h : Below w.heap.size w w') {b i : Nat} {v : Value} (hz : b < w.heap.size) (c : w.cell? ⟨b, i, none⟩ = some v) : w'.cell? ⟨b, i, none⟩ = some v := (h.cell (p := ⟨b, i, none⟩) hz).trans c
theorem clw {lo hi : Nat} {w w' : World} (h : Wr lo hi w w') {b i : Nat} {v : Value} (hp : b < lo ∨ hi ≤ b) (hz : b < w.heap.size) (c : w.cell? ⟨b, i, none⟩ = some v) : w'.cell? ⟨b, i, none⟩ = some v := (wr_cell h i hp hz).trans c
/- Of the type 43. -/
theorem BookAt.form2 {w : World} {v : Value} {x : List Aff × List (ByteArray × ByteArray)} (h : BookAt w v x) : ∃ a n c a' n' c', v = .agg #[.slice a n c, .slice a' n' c'] := by
  obtain ⟨va, ve, rfl, h1, h2⟩ := h
  obtain ⟨a, c, rfl, _⟩ := h1.form
  obtain ⟨a', c', rfl, _⟩ := h2.form
  exact ⟨_, _, _, _, _, _, rfl⟩
end Go.Proofs.YtkepmjebnkcbgaaGreatDoor
/-
  Arguments of laws, opened: slices of affixes, of texts; an entry.
-/
namespace Go.Proofs.YtkepmjebnkcbgaaGreatDoor
open Go.ChangeShapes Go.WideShapes Go.ChangeAt Go.RowKit
set_option linter.unusedVariables false
end Go.Proofs.YtkepmjebnkcbgaaGreatDoor
/-
  Entries and affixes held against their marks; changes in one form.
-/
namespace Go.Proofs.YtkepmjebnkcbgaaGreatDoor
open Go.RowKit
set_option linter.unusedVariables false
theorem box_cell {w w1 : World} {lo hi : Nat} {cs : Array Value} {t : TypeId} (hw : Wr lo hi (w.alloc (.cells cs t)) w1) (hlo : hi ≤ w.heap.size) (i : Nat) : w1.cell? ⟨w.heap.size, i, none⟩ = cs[i]? := by
  have hblk : w1.heap[w.heap.size]? = (w.alloc (.cells cs t)).heap[w.heap.size]? := hw.2.2.1 _ hlo (by simp)
  rw [cell_of_row _ _ i _ _ _ (hblk.trans (heap_alloc_last _ _))]
set_option maxHeartbeats 2000000 in
theorem heldEntryS_x (w : World) (v : Value) (k : Nat) (x : List (ByteArray × ByteArray)) (h : EntsAt w v (marksE k x.length)) (hs : x.length ≤ 1048576) (hk : k ≤ 1000000000) :
    Calls Tryz.prog 68 #[v, .int .i64 k] w fun e w' => e = .returned (.int .i64 ((k + x.length * 2 : Nat) : Int)) ∧ Below w.heap.size w w' := by
  obtain ⟨a, cap, rfl, hc, hm⟩ := h.form
  rw [marksE_length] at hc h ⊢
  generalize hn : x.length = n at *
  clear hn
  have HS : Hid (EntsAt w (.slice a n cap) (marksE k n)) := h
  clear h
  unfold maxLen at hm
  go_enter Tryz.func68, Tryz.ntmps68
  go_wp2
  go_loopw [1, 5] (fun kv i wr => ∃ (j : Nat), j ≤ n ∧ kv = .int .i64 (k + j * 2) ∧ i = .int .i64 j ∧ Below w.heap.size w wr) (fun _ i _ => n - (intOf i).toNat)
  case atStart => exact ⟨0, Nat.zero_le _, by simp, rfl, Below.refl _ _⟩
  case round =>
    obtain ⟨j, hj, rfl, rfl, hb⟩ := hrel
    have HB0 : Hid (Below w.heap.size w wr) := hb
    clear hb
    by_cases hlt : j < n
    · have i0 : (0 : Int) ≤ (j : Int) := by omega
      have i1 : (j : Int) < (n : Int) := by omega
      obtain ⟨b, off, cap1, s, hv, hbl, hs2, hfit, c0_0, c0_1⟩ := (HS.out.below HB0.out).at (k := j) (by rw [marksE_length]; exact hlt)
      rw [marksE_length] at hv
      cases hv
      rw [marksE_at hlt] at hs2
      cases hs2
      clear hfit
      have hm0 := markT_size (k + j * 2)
      have hm1 := markT_size (k + j * 2 + 1)
      go_wp2_with fail
      go_region_held3 (fun w' => w'.cell? ⟨b, off + j * 2, none⟩ = some (.string (markT (k + j * 2))) ∧ w'.cell? ⟨b, off + j * 2 + 1, none⟩ = some (.string (markT (k + j * 2 + 1)))) (go_keep)
        ((go_at_call 66; refine (markText_int _ (k + j * 2) (by push_cast; omega) (by omega) _).mono ?_; rintro e w1 ⟨rfl, hb1⟩; have HB1 : Hid (Below w.heap.size w w1) := HB0.out.drew.trans (hb1.mono HB0.out.size); have c1_0 := (hb1.cell (p := ⟨b, off + j * 2, none⟩) hbl).trans c0_0; have c1_1 := (hb1.cell (p := ⟨b, off + j * 2 + 1, none⟩) hbl).trans c0_1; have hbl1 : b < w1.heap.size := Nat.lt_of_lt_of_le hbl hb1.size; clear hb1 c0_0 c0_1))
      go_wp2_with fail
      go_region_held3 (fun w' => w'.cell? ⟨b, off + j * 2 + 1, none⟩ = some (.string (markT (k + j * 2 + 1)))) (go_keep)
        ((go_at_call 66; refine (markText_int _ (k + j * 2 + 1) (by push_cast; omega) (by omega) _).mono ?_; rintro e w2 ⟨rfl, hb2⟩; have HB2 : Hid (Below w.heap.size w w2) := HB1.out.drew.trans (hb2.mono HB1.out.size); have c2_1 := (hb2.cell (p := ⟨b, off + j * 2 + 1, none⟩) hbl1).trans c1_1; have hbl2 : b < w2.heap.size := Nat.lt_of_lt_of_le hbl1 hb2.size; clear hb2 c1_1))
      go_wp2
      go_roundw
      case rel => exact ⟨j + 1, by omega, by go_num, by go_num, HB2.out⟩
      case measure => simp [intOf]; omega
    · have hje : j = n := by omega
      subst hje
      go_wp2
      go_ret
      exact ⟨by push_cast; rfl, HB0.out⟩
set_option maxHeartbeats 2000000 in
theorem heldAffixS_x (w : World) (v : Value) (k : Nat) (x : List Aff) (h : AffsAt w v (marksA k x.length)) (hs : x.length ≤ 1048576) (hk : k ≤ 1000000000) :
    Calls Tryz.prog 69 #[v, .int .i64 k] w fun e w' => e = .returned (.int .i64 ((k + x.length * 5 : Nat) : Int)) ∧ Below w.heap.size w w' := by
  obtain ⟨a, cap, rfl, hc, hm⟩ := h.form
  rw [marksA_length] at hc h ⊢
  generalize hn : x.length = n at *
  clear hn
  have HS : Hid (AffsAt w (.slice a n cap) (marksA k n)) := h
  clear h
  unfold maxLen at hm
  go_enter Tryz.func69, Tryz.ntmps69
  go_wp2
  go_loopw [1, 5] (fun kv i wr => ∃ (j : Nat), j ≤ n ∧ kv = .int .i64 (k + j * 5) ∧ i = .int .i64 j ∧ Below w.heap.size w wr) (fun _ i _ => n - (intOf i).toNat)
  case atStart => exact ⟨0, Nat.zero_le _, by simp, rfl, Below.refl _ _⟩
  case round =>
    obtain ⟨j, hj, rfl, rfl, hb⟩ := hrel
    have HB0 : Hid (Below w.heap.size w wr) := hb
    clear hb
    by_cases hlt : j < n
    · have i0 : (0 : Int) ≤ (j : Int) := by omega
      have i1 : (j : Int) < (n : Int) := by omega
      obtain ⟨b, off, cap1, s, hv, hbl, hs2, hfit, c0_0, c0_1, c0_2, c0_3, c0_4⟩ := (HS.out.below HB0.out).at (k := j) (by rw [marksA_length]; exact hlt)
      rw [marksA_length] at hv
      cases hv
      rw [marksA_at hlt] at hs2
      cases hs2
      simp only [markA] at c0_0 c0_1 c0_2 c0_3 c0_4
      push_cast at c0_1
      rcases Classical.em (((k : Int) + (j : Int) * 5 + 1) % 3 = 0) with h3 | h3
      all_goals
        simp only [h3, decide_true, decide_false] at c0_1
        clear hfit
        have hm0 := markT_size (k + j * 5)
        have hm2 := markT_size (k + j * 5 + 2)
        have hm3 := markT_size (k + j * 5 + 3)
        have hm4 := markT_size (k + j * 5 + 4)
        go_wp2_with fail
        go_region_held3 (fun w' => w'.cell? ⟨b, off + j * 5, none⟩ = some (.string (markT (k + j * 5))) ∧ w'.cell? ⟨b, off + j * 5 + 2, none⟩ = some (.string (markT (k + j * 5 + 2))) ∧ w'.cell? ⟨b, off + j * 5 + 3, none⟩ = some (.string (markT (k + j * 5 + 3))) ∧ w'.cell? ⟨b, off + j * 5 + 4, none⟩ = some (.string (markT (k + j * 5 + 4)))) (go_keep)
          ((go_at_call 66; refine (markText_int _ (k + j * 5) (by push_cast; omega) (by omega) _).mono ?_; rintro e w1 ⟨rfl, hb1⟩; have HB1 : Hid (Below w.heap.size w w1) := HB0.out.drew.trans (hb1.mono HB0.out.size); have c1_0 := (hb1.cell (p := ⟨b, off + j * 5, none⟩) hbl).trans c0_0; have c1_1 := (hb1.cell (p := ⟨b, off + j * 5 + 1, none⟩) hbl).trans c0_1; have c1_2 := (hb1.cell (p := ⟨b, off + j * 5 + 2, none⟩) hbl).trans c0_2; have c1_3 := (hb1.cell (p := ⟨b, off + j * 5 + 3, none⟩) hbl).trans c0_3; have c1_4 := (hb1.cell (p := ⟨b, off + j * 5 + 4, none⟩) hbl).trans c0_4; have hbl1 : b < w1.heap.size := Nat.lt_of_lt_of_le hbl hb1.size; clear hb1 c0_0 c0_1 c0_2 c0_3 c0_4))
        go_wp2_with fail
        go_region_held3 (fun w' => w'.cell? ⟨b, off + j * 5 + 2, none⟩ = some (.string (markT (k + j * 5 + 2))) ∧ w'.cell? ⟨b, off + j * 5 + 3, none⟩ = some (.string (markT (k + j * 5 + 3))) ∧ w'.cell? ⟨b, off + j * 5 + 4, none⟩ = some (.string (markT (k + j * 5 + 4)))) (go_keep)
          ((go_at_call 66; refine (markText_int _ (k + j * 5 + 2) (by push_cast; omega) (by omega) _).mono ?_; rintro e w2 ⟨rfl, hb2⟩; have HB2 : Hid (Below w.heap.size w w2) := HB1.out.drew.trans (hb2.mono HB1.out.size); have c2_2 := (hb2.cell (p := ⟨b, off + j * 5 + 2, none⟩) hbl1).trans c1_2; have c2_3 := (hb2.cell (p := ⟨b, off + j * 5 + 3, none⟩) hbl1).trans c1_3; have c2_4 := (hb2.cell (p := ⟨b, off + j * 5 + 4, none⟩) hbl1).trans c1_4; have hbl2 : b < w2.heap.size := Nat.lt_of_lt_of_le hbl1 hb2.size; clear hb2 c1_2 c1_3 c1_4))
        go_wp2_with fail
        go_region_held3 (fun w' => w'.cell? ⟨b, off + j * 5 + 3, none⟩ = some (.string (markT (k + j * 5 + 3))) ∧ w'.cell? ⟨b, off + j * 5 + 4, none⟩ = some (.string (markT (k + j * 5 + 4)))) (go_keep)
          ((go_at_call 66; refine (markText_int _ (k + j * 5 + 3) (by push_cast; omega) (by omega) _).mono ?_; rintro e w3 ⟨rfl, hb3⟩; have HB3 : Hid (Below w.heap.size w w3) := HB2.out.drew.trans (hb3.mono HB2.out.size); have c3_3 := (hb3.cell (p := ⟨b, off + j * 5 + 3, none⟩) hbl2).trans c2_3; have c3_4 := (hb3.cell (p := ⟨b, off + j * 5 + 4, none⟩) hbl2).trans c2_4; have hbl3 : b < w3.heap.size := Nat.lt_of_lt_of_le hbl2 hb3.size; clear hb3 c2_3 c2_4))
        go_wp2_with fail
        go_region_held3 (fun w' => w'.cell? ⟨b, off + j * 5 + 4, none⟩ = some (.string (markT (k + j * 5 + 4)))) (go_keep)
          ((go_at_call 66; refine (markText_int _ (k + j * 5 + 4) (by push_cast; omega) (by omega) _).mono ?_; rintro e w4 ⟨rfl, hb4⟩; have HB4 : Hid (Below w.heap.size w w4) := HB3.out.drew.trans (hb4.mono HB3.out.size); have c4_4 := (hb4.cell (p := ⟨b, off + j * 5 + 4, none⟩) hbl3).trans c3_4; have hbl4 : b < w4.heap.size := Nat.lt_of_lt_of_le hbl3 hb4.size; clear hb4 c3_4))
        go_wp2
        go_roundw
        case rel => exact ⟨j + 1, by omega, by go_num, by go_num, HB4.out⟩
        case measure => simp [intOf]; omega
    · have hje : j = n := by omega
      subst hje
      go_wp2
      go_ret
      exact ⟨by push_cast; rfl, HB0.out⟩
/- Of the types 87 and 89. -/
/-- Changes: what goes, what comes, whether affixes change, which. -/
abbrev DeltaM := List ByteArray × List (ByteArray × ByteArray) × Bool × List Aff
def DeltaAt (w : World) (v : Value) (x : DeltaM) : Prop := ∃ vg vc vl, v = .agg #[vg, vc, .bool x.2.2.1, vl] ∧ TextsAt w vg x.1 ∧ EntsAt w vc x.2.1 ∧ AffsAt w vl x.2.2.2
def DeltaOwn (lo hi : Nat) (w : World) (v : Value) (x : DeltaM) : Prop := ∃ vg vc vl, v = .agg #[vg, vc, .bool x.2.2.1, vl] ∧ TextsRow lo hi w vg x.1 ∧ EntsOwn lo hi w vc x.2.1 ∧ AffsOwn lo hi w vl x.2.2.2
def DeltaSm (x : DeltaM) : Prop := x.1.length ≤ 1048576 ∧ x.2.1.length ≤ 1048576 ∧ x.2.2.2.length ≤ 1048576
def deltaCnt (x : DeltaM) : Nat := x.1.length + x.2.1.length * 2 + x.2.2.2.length * 5
def deltaMk (k : Nat) (x : DeltaM) : DeltaM := (marks k x.1.length, marksE (k + x.1.length) x.2.1.length, x.2.2.1, marksA (k + x.1.length + x.2.1.length * 2) x.2.2.2.length)
theorem DeltaAt.form {w : World} {v : Value} {x : DeltaM} (h : DeltaAt w v x) : ∃ a b c d, v = .agg #[a, b, c, d] := by obtain ⟨vg, vc, vl, hv, _⟩ := h; exact ⟨_, _, _, _, hv⟩
theorem DeltaAt.form2 {w : World} {v : Value} {x : DeltaM} (h : DeltaAt w v x) : ∃ a n c a' n' c' b a'' n'' c'', v = .agg #[.slice a n c, .slice a' n' c', .bool b, .slice a'' n'' c''] := by
  obtain ⟨vg, vc, vl, rfl, h1, h2, h3⟩ := h
  obtain ⟨a, c, rfl, _⟩ := h1.form
  obtain ⟨a', c', rfl, _⟩ := h2.form
  obtain ⟨a'', c'', rfl, _⟩ := h3.form
  exact ⟨_, _, _, _, _, _, _, _, _, _, rfl⟩
theorem DeltaAt.below {w w' : World} {v : Value} {x : DeltaM} (h : DeltaAt w v x) (hb : Below w.heap.size w w') : DeltaAt w' v x := by
  obtain ⟨vg, vc, vl, hv, h1, h2, h3⟩ := h
  exact ⟨vg, vc, vl, hv, h1.below hb, h2.below hb, h3.below hb⟩
theorem DeltaOwn.at {lo hi : Nat} {w : World} {v : Value} {x : DeltaM} (h : DeltaOwn lo hi w v x) : DeltaAt w v x := by
  obtain ⟨vg, vc, vl, hv, h1, h2, h3⟩ := h
  exact ⟨vg, vc, vl, hv, h1.at, h2.at, h3.at⟩
theorem DeltaOwn.below {lo hi : Nat} {w w' : World} {v : Value} {x : DeltaM} (h : DeltaOwn lo hi w v x) (hb : Below w.heap.size w w') : DeltaOwn lo hi w' v x := by
  obtain ⟨vg, vc, vl, hv, h1, h2, h3⟩ := h
  exact ⟨vg, vc, vl, hv, h1.below hb, h2.below hb, h3.below hb⟩
theorem DeltaOwn.wr {lo hi l h' : Nat} {w w' : World} {v : Value} {x : DeltaM} (h : DeltaOwn lo hi w v x) (hw : Wr l h' w w') (hl : h' ≤ lo) : DeltaOwn lo hi w' v x := by
  obtain ⟨vg, vc, vl, hv, h1, h2, h3⟩ := h
  exact ⟨vg, vc, vl, hv, h1.wr hw hl, h2.wr hw hl, h3.wr hw hl⟩
set_option maxHeartbeats 1000000 in
theorem markDelta_u (lo hi k : Nat) (w : World) (v : Value) (x : DeltaM) (h : DeltaOwn lo hi w v x) (hs : DeltaSm x) (hk : k ≤ 10000000000) (hlo : hi ≤ w.heap.size) (hlh : lo ≤ hi) :
    Calls Tryz.prog 40 #[v, .int .i64 k] w fun e w' => e = .returned (.int .i64 ((k + deltaCnt x : Nat) : Int)) ∧ DeltaOwn lo hi w' v (deltaMk k x) ∧ Wr lo hi w w' := by
  obtain ⟨vg, vc, vl, rfl, hg, he, ha⟩ := h
  obtain ⟨gs, es, af, xs⟩ := x
  simp only [deltaCnt, deltaMk, DeltaSm] at *
  obtain ⟨hs0, hs1, hs2⟩ := hs
  have hlo2 : lo ≤ w.heap.size := by omega
  have HB0 : Hid (Below w.heap.size w (w.alloc (.cells #[vg, vc, .bool af, vl] 35))) := (Below.refl _ _).alloc (Nat.le_refl _) _
  have HG : Hid (TextsRow lo hi (w.alloc (.cells #[vg, vc, .bool af, vl] 35)) vg gs) := hg.below HB0.out
  have HE : Hid (EntsOwn lo hi (w.alloc (.cells #[vg, vc, .bool af, vl] 35)) vc es) := he.below HB0.out
  have HA : Hid (AffsOwn lo hi (w.alloc (.cells #[vg, vc, .bool af, vl] 35)) vl xs) := ha.below HB0.out
  clear ha he hg
  go_enter Tryz.func40, Tryz.ntmps40
  go_wp2_with fail
  refine (markStringS_r lo hi k _ vg gs.length _ HG.out.1 (by omega) (by omega) (by simp; omega)).mono ?_
  rintro e w1 ⟨rfl, hG1, hw1, hg1⟩
  have HW0 : Hid (Wr lo hi (w.alloc (.cells #[vg, vc, .bool af, vl] 35)) w1) := hw1
  have HG1 : Hid (TextsRow lo hi w1 vg (marks k gs.length)) := hG1
  have HE1 : Hid (EntsOwn lo hi w1 vc es) := ⟨HE.out.1.apart HG.out.1 (by decide) hg1, HE.out.2⟩
  have HA1 : Hid (AffsOwn lo hi w1 vl xs) := ⟨HA.out.1.apart HG.out.1 (by decide) hg1, HA.out.2⟩
  have c1 : w1.cell? ⟨w.heap.size, 1, none⟩ = some vc := box_cell hw1 hlo 1
  have hz1 : w.heap.size < w1.heap.size := by have := hw1.sz; simp at this; omega
  clear hG1 hw1 hg1
  go_wp2_with fail
  refine (markEntryS_any lo hi (k + gs.length) _ vc es.length _ HE1.out.1 (by omega) (by omega) (by omega)).mono ?_
  rintro e w2 ⟨rfl, hE2, hw2, hg2⟩
  have HW2 : Hid (Wr lo hi (w.alloc (.cells #[vg, vc, .bool af, vl] 35)) w2) := HW0.out.trans hw2
  have HG2 : Hid (TextsRow lo hi w2 vg (marks k gs.length)) := ⟨HG1.out.1.apart HE1.out.1 (by decide) hg2, HG1.out.2⟩
  have HA2 : Hid (AffsOwn lo hi w2 vl xs) := ⟨HA1.out.1.apart HE1.out.1 (by decide) hg2, HA1.out.2⟩
  have HE2 : Hid (EntsOwn lo hi w2 vc (marksE (k + gs.length) es.length)) := hE2
  have c2 : w2.cell? ⟨w.heap.size, 3, none⟩ = some vl := box_cell HW2.out hlo 3
  have hz2 : w.heap.size < w2.heap.size := by have := hw2.sz; omega
  clear hE2 hw2 hg2 c1
  go_wp2_with fail
  refine (markAffixS_any lo hi (k + gs.length + es.length * 2) _ vl xs.length _ HA2.out.1 (by omega) (by omega) (by omega)).mono ?_
  rintro e w3 ⟨rfl, hA3, hw3, hg3⟩
  have HW3 : Hid (Wr lo hi w w3) := (Wr.of_below HB0.out hlo2).trans (HW2.out.trans hw3)
  have HG3 : Hid (TextsRow lo hi w3 vg (marks k gs.length)) := ⟨HG2.out.1.apart HA2.out.1 (by decide) hg3, HG2.out.2⟩
  have HE3 : Hid (EntsOwn lo hi w3 vc (marksE (k + gs.length) es.length)) := ⟨HE2.out.1.apart HA2.out.1 (by decide) hg3, HE2.out.2⟩
  have HA3 : Hid (AffsOwn lo hi w3 vl (marksA (k + gs.length + es.length * 2) xs.length)) := hA3
  clear hA3 hw3 hg3 c2
  go_wp2
  go_ret
  exact ⟨by push_cast; simp only [Int.add_assoc]; rfl, ⟨vg, vc, vl, rfl, HG3.out, HE3.out, HA3.out⟩, HW3.out⟩
set_option maxHeartbeats 1000000 in
theorem heldDelta_u (w : World) (v : Value) (k : Nat) (x : DeltaM) (h : DeltaAt w v (deltaMk k x)) (hs : DeltaSm x) (hk : k ≤ 900000000) :
    Calls Tryz.prog 41 #[v, .int .i64 k] w fun e w' => e = .returned (.int .i64 ((k + deltaCnt x : Nat) : Int)) ∧ Below w.heap.size w w' := by
  obtain ⟨vg, vc, vl, rfl, hg, he, ha⟩ := h
  obtain ⟨gs, es, af, xs⟩ := x
  simp only [deltaCnt, deltaMk, DeltaSm] at *
  obtain ⟨hs0, hs1, hs2⟩ := hs
  have HB0 : Hid (Below w.heap.size w (w.alloc (.cells #[vg, vc, .bool af, vl] 35))) := (Below.refl _ _).alloc (Nat.le_refl _) _
  have HG : Hid (TextsAt w vg (marks k gs.length)) := hg
  have HE : Hid (EntsAt w vc (marksE (k + gs.length) es.length)) := he
  have HA : Hid (AffsAt w vl (marksA (k + gs.length + es.length * 2) xs.length)) := ha
  clear ha he hg
  obtain ⟨k1, hk1⟩ : ∃ K : Nat, k + gs.length = K := ⟨_, rfl⟩
  obtain ⟨k2, hk2⟩ : ∃ K : Nat, k1 + es.length * 2 = K := ⟨_, rfl⟩
  rw [hk1] at HE HA
  rw [hk2] at HA
  have n1 : ¬ ((k1 : Int) < 0) := by omega
  have n2 : ¬ ((k2 : Int) < 0) := by omega
  have b1 : k1 ≤ 1000000000 := by omega
  have b2 : k2 ≤ 1000000000 := by omega
  have HK : Hid (k + (gs.length + es.length * 2 + xs.length * 5) = k2 + xs.length * 5) := by show _ = _; omega
  have HK1 : Hid (k + gs.length = k1) := hk1
  have HK2 : Hid (k1 + es.length * 2 = k2) := hk2
  rw [HK.out]
  obtain ⟨k3, hk3⟩ : ∃ K : Nat, k2 + xs.length * 5 = K := ⟨_, rfl⟩
  have HK3 : Hid (k2 + xs.length * 5 = k3) := hk3
  have n3 : ¬ ((k3 : Int) < 0) := by omega
  rw [hk3]
  clear hk1 hk2 hk3
  go_enter Tryz.func41, Tryz.ntmps41
  go_wp2_with fail
  refine (cK (heldStringS_x _ _ k gs (HG.out.below HB0.out) hs0 (by omega)) HK1.out).mono ?_
  rintro e w1 ⟨rfl, hb1⟩
  have HB1 : Hid (Below w.heap.size w w1) := HB0.out.trans (hb1.mono (by simp))
  have c1 : w1.cell? ⟨w.heap.size, 1, none⟩ = some vc := (hb1.cell (p := ⟨w.heap.size, 1, none⟩) (by simp)).trans (by simp [go_sem])
  have c3 : w1.cell? ⟨w.heap.size, 3, none⟩ = some vl := (hb1.cell (p := ⟨w.heap.size, 3, none⟩) (by simp)).trans (by simp [go_sem])
  have hz1 : w.heap.size < w1.heap.size := by have := hb1.size; simp at this; omega
  clear hb1
  go_wp2_with fail
  refine (cK (heldEntryS_x _ _ k1 es (HE.out.below HB1.out) hs1 b1) HK2.out).mono ?_
  rintro e w2 ⟨rfl, hb2⟩
  have HB2 : Hid (Below w.heap.size w w2) := HB1.out.trans (hb2.mono HB1.out.size)
  have d3 := (hb2.cell (p := ⟨w.heap.size, 3, none⟩) hz1).trans c3
  clear hb2 c1 c3
  go_wp2_with fail
  refine (cK (heldAffixS_x _ _ k2 xs (HA.out.below HB2.out) hs2 b2) HK3.out).mono ?_
  rintro e w3 ⟨rfl, hb3⟩
  have HB3 : Hid (Below w.heap.size w w3) := HB2.out.trans (hb3.mono HB2.out.size)
  clear hb3 d3
  go_wp2
  go_ret
  exact ⟨rfl, HB3.out⟩
end Go.Proofs.YtkepmjebnkcbgaaGreatDoor
/-
  Rings: rows of numbers of one's own, marked and held; a ring that a law is given, copied, compared, marked, held.
-/
namespace Go.Proofs.YtkepmjebnkcbgaaGreatDoor
open Go.ChangeShapes Go.WideShapes Go.ChangeAt Go.RowKit
set_option linter.unusedVariables false
/-- Numbers in a row of their own. -/
def InTo (k : Nat) (xs : List Int) (f : Nat → Value) : Prop := ∀ (j : Nat) (x : Int), j < k → xs[j]? = some x → f j = .int .i64 x
def IntsRow (lo hi : Nat) (w : World) (v : Value) (xs : List Int) : Prop := RowOwn 3 1 lo hi w v xs.length (InTo xs.length xs)
theorem IntsRow.at {lo hi : Nat} {w : World} {v : Value} {xs : List Int} (h : IntsRow lo hi w v xs) : IntsAt w v xs := by
  obtain ⟨a, cap, hv, hc, hm, hh⟩ := h
  refine ⟨a, cap, hv, hc, Nat.le_trans hc hm, fun hn => ?_⟩
  obtain ⟨g, m, f, ha, _, _, hle, hr, hx⟩ := hh (fun e => hn (List.length_eq_zero_iff.1 e))
  refine ⟨g, 0, ha, hr.lt, fun i x hi => ?_⟩
  have hlt : i < xs.length := (List.getElem?_eq_some_iff.1 hi).1
  rw [Nat.zero_add]
  exact (hr.cell (by omega)).trans (by rw [hx i x hlt hi])
theorem IntsRow.below {lo hi : Nat} {w w' : World} {v : Value} {xs : List Int} (h : IntsRow lo hi w v xs) (hb : Below w.heap.size w w') : IntsRow lo hi w' v xs := RowOwn.below h hb
theorem IntsRow.wr {lo hi l h' : Nat} {w w' : World} {v : Value} {xs : List Int} (h : IntsRow lo hi w v xs) (hw : Wr l h' w w') (hl : h' ≤ lo) : IntsRow lo hi w' v xs := RowOwn.wr h hw hl
theorem IntsRow.weak {lo hi lo' hi' : Nat} {w : World} {v : Value} {xs : List Int} (h : IntsRow lo hi w v xs) (h1 : lo' ≤ lo) (h2 : hi ≤ hi') : IntsRow lo' hi' w v xs := RowOwn.weak h h1 h2
theorem IntsRow.set {lo hi G : Nat} {w : World} {n c : Nat} {xs : List Int} (h : IntsRow lo hi w (.slice (some ⟨G, 0, none⟩) n c) xs) {p : Addr} (hp : G ≠ p.block) (u : Value) : IntsRow lo hi (w.setCell p u) (.slice (some ⟨G, 0, none⟩) n c) xs := RowOwn.set h hp u
def numsK (k n : Nat) : List Int := (List.range n).map fun (i : Nat) => ((k + i : Nat) : Int)
theorem numsK_length (k n : Nat) : (numsK k n).length = n := by simp [numsK]
theorem numsK_at {k n j : Nat} (h : j < n) : (numsK k n)[j]? = some ((k + j : Nat) : Int) := by
  unfold numsK
  rw [List.getElem?_map, List.getElem?_range h]
  rfl
/-- What toIntS makes lies in a row of its own. -/
theorem intsRow_of (lo : Nat) {w : World} {g n c : Nat} {xs : List Int} {f : Nat → Value} (hn : xs.length ≤ n) (hc : xs.length ≤ c) (hm : c ≤ maxLen) (hl : lo ≤ g) (hr : w.rowIs g 3 n f) (hf : InTo xs.length xs f) : IntsRow lo w.heap.size w (.slice (some ⟨g, 0, none⟩) xs.length c) xs :=
  ⟨_, _, rfl, hc, hm, fun _ => ⟨g, n, f, rfl, hl, hr.lt, by omega, hr, hf⟩⟩
set_option maxHeartbeats 1000000 in
theorem toIntS_x (w : World) (v : Value) (xs : List Int) (h : IntsAt w v xs) (hn : xs.length ≤ 1048576) :
    Calls Tryz.prog 27 #[v] w fun e w' => e = .returned (.slice (some ⟨w.heap.size, 0, none⟩) xs.length xs.length) ∧ IntsRow w.heap.size w'.heap.size w' (.slice (some ⟨w.heap.size, 0, none⟩) xs.length xs.length) xs ∧ Below w.heap.size w w' := by
  obtain ⟨a, cap, rfl, hc, hm⟩ := h.form
  have HS : Hid (IntsAt w (.slice a xs.length cap) xs) := h
  clear h
  unfold maxLen at hm
  have hmk := run_make_row' (P := Tryz.prog) 23 3 (.int .i64 0) 8 Tryz.underlying23 Tryz.info_intI rfl .i64 .i64 xs.length (by omega) (by omega)
  have HF : Hid ((w.alloc (.cells (madeCells #[.int .i64 0] xs.length) 3)).rowIs w.heap.size 3 xs.length (fun _ => .int .i64 0)) := World.rowIs_made w (.int .i64 0) xs.length 3
  go_enter Tryz.func27, Tryz.ntmps27
  go_wp2
  go_loopw [4] (fun i wr => ∃ (k : Nat) (f : Nat → Value), k ≤ xs.length ∧ i = .int .i64 k ∧ wr.rowIs w.heap.size 3 xs.length f ∧ (∀ (j : Nat) (x : Int), j < k → xs[j]? = some x → f j = .int .i64 x) ∧ Below w.heap.size w wr) (fun i _ => xs.length - (intOf i).toNat)
  case atStart => exact ⟨0, _, Nat.zero_le _, rfl, HF.out, fun j s hj => absurd hj (by omega), (Below.refl _ _).alloc (Nat.le_refl _) _⟩
  case round =>
    obtain ⟨k, f, hk, rfl, hrow, hall, hb⟩ := hrel
    have HA : Hid (∀ (j : Nat) (x : Int), j < k → xs[j]? = some x → f j = .int .i64 x) := hall
    have HB : Hid (Below w.heap.size w wr) := hb
    have HW : Hid (wr.rowIs w.heap.size 3 xs.length f) := hrow
    clear hall hb hrow
    by_cases hlt : k < xs.length
    · obtain ⟨b, off, cap', x, hv, hbl, hx, e0⟩ := (HS.out.below HB.out).at hlt
      cases hv
      have HX : Hid (xs[k]? = some x) := hx
      have d0 := HW.out.cell (i := k) hlt
      have g0 := HW.out.frozen k
      clear hx
      go_wp2
      go_roundw
      case rel =>
        refine ⟨k + 1, _, by omega, by go_num, HW.out.set k _, fun j y hj hy => ?_, HB.out.setCell (Nat.le_refl _) _⟩
        by_cases e : j = k
        · subst e
          rw [HX.out] at hy
          cases hy
          simp
        · simp only [e, if_false]
          exact HA.out j y (by omega) hy
      case measure => simp [intOf]; omega
    · obtain rfl : k = xs.length := by omega
      go_wp2
      go_ret
      exact ⟨rfl, intsRow_of _ (Nat.le_refl _) (Nat.le_refl _) (by unfold maxLen; omega) (Nat.le_refl _) HW.out (fun j x hj hx => HA.out j x hj hx), HB.out⟩
set_option maxHeartbeats 1000000 in
theorem markIntS_r (lo hi k : Nat) (w : World) (v : Value) (n : Nat) (C : (Nat → Value) → Prop) (h : RowOwn 3 1 lo hi w v n C) (hn : n ≤ 2000000000) (hk : k ≤ 100000000000) (hlo : lo ≤ w.heap.size) :
    Calls Tryz.prog 37 #[v, .int .i64 k] w fun e w' => e = .returned (.int .i64 ((k + n : Nat) : Int)) ∧ IntsRow lo hi w' v (numsK k n) ∧ Wr lo hi w w' ∧ w.grownBy w' (rowOf v n) := by
  obtain ⟨a, cap, rfl, hc, hm, hh⟩ := h
  have HC : Hid (cap ≤ maxLen) := hm
  unfold maxLen at hm
  by_cases h0 : n = 0
  · subst h0
    clear hh
    have HR : Hid (IntsRow lo hi w (.slice a 0 cap) (numsK k 0)) := ⟨a, cap, rfl, hc, HC.out, fun hh => absurd rfl hh⟩
    go_enter Tryz.func37, Tryz.ntmps37
    go_wp2
    go_loopw [1, 5] (fun kv i wr => kv = .int .i64 k ∧ i = .int .i64 0 ∧ wr = w) (fun _ i _ => 0)
    case atStart => exact ⟨rfl, rfl, rfl⟩
    case round =>
      obtain ⟨rfl, rfl, rfl⟩ := hrel
      go_wp2
      go_ret
      exact ⟨by simp, HR.out, Wr.refl _ _ _, grown_refl _ _⟩
  · obtain ⟨g, m, f0, rfl, hg, hgh, hle, hr, _⟩ := hh h0
    have HR : Hid (w.rowIs g 3 m f0) := hr
    clear hr hh
    go_enter Tryz.func37, Tryz.ntmps37
    go_wp2
    go_loopw [1, 5] (fun kv i wr => ∃ (j : Nat) (f : Nat → Value), j ≤ n ∧ kv = .int .i64 (k + j) ∧ i = .int .i64 j ∧ wr.rowIs g 3 m f ∧ InTo j (numsK k n) f ∧ Wr lo hi w wr ∧ w.grownBy wr (some g)) (fun _ i _ => n - (intOf i).toNat)
    case atStart => exact ⟨0, f0, Nat.zero_le _, by simp, rfl, HR.out, fun j x hj => absurd hj (by omega), Wr.refl _ _ _, grown_refl _ _⟩
    case round =>
      obtain ⟨j, f, hj, rfl, rfl, hr, ha, hw, hb⟩ := hrel
      have HB : Hid (w.grownBy wr (some g)) := hb
      have HW : Hid (wr.rowIs g 3 m f) := hr
      have HA : Hid (InTo j (numsK k n) f) := ha
      have HR2 : Hid (Wr lo hi w wr) := hw
      clear hb hr ha hw
      by_cases hlt : j < n
      · have HX : Hid ((numsK k n)[j]? = some ((k + j : Nat) : Int)) := numsK_at hlt
        have d0 := HW.out.cell (i := j) (by omega)
        have g0 := HW.out.frozen j
        go_wp2
        go_roundw
        case rel =>
          refine ⟨j + 1, _, by omega, by go_num, by go_num, HW.out.set j _, fun i x hi hx => ?_, HR2.out.trans (Wr.set wr (p := ⟨g, j, none⟩) hg hgh rfl _), grown_trans HB.out (grown_set _ _ _ _)⟩
          by_cases e : i = j
          · subst e
            rw [HX.out] at hx
            cases hx
            simp
          · show (if i = j then _ else f i) = _
            rw [if_neg e]
            exact HA.out i x (by omega) hx
        case measure => simp [intOf]; omega
      · have hje : j = n := by omega
        subst hje
        go_wp2
        go_ret
        refine ⟨by push_cast; rfl, ⟨_, cap, by rw [numsK_length], by rw [numsK_length]; exact hc, HC.out, fun _ => ⟨g, m, f, rfl, hg, hgh, by rw [numsK_length]; exact hle, HW.out, by rw [numsK_length]; exact HA.out⟩⟩, HR2.out, by rw [rowOf_pos h0]; exact HB.out⟩
/-- Rings. -/
abbrev RingM := List ByteArray × List Int
def RingAt (w : World) (v : Value) (x : RingM) : Prop := ∃ va vn, v = .agg #[va, vn] ∧ TextsAt w va x.1 ∧ IntsAt w vn x.2
def RingOwn (lo hi : Nat) (w : World) (v : Value) (x : RingM) : Prop := ∃ va vn, v = .agg #[va, vn] ∧ TextsRow lo hi w va x.1 ∧ IntsRow lo hi w vn x.2
def RingSm (x : RingM) : Prop := x.1.length ≤ 1048576 ∧ x.2.length ≤ 1048576
def ringCnt (x : RingM) : Nat := x.1.length + x.2.length
def ringMk (k : Nat) (x : RingM) : RingM := (marks k x.1.length, numsK (k + x.1.length) x.2.length)
theorem RingAt.form2 {w : World} {v : Value} {x : RingM} (h : RingAt w v x) : ∃ a n c a' n' c', v = .agg #[.slice a n c, .slice a' n' c'] := by
  obtain ⟨va, vn, rfl, h1, h2⟩ := h
  obtain ⟨a, c, rfl, _⟩ := h1.form
  obtain ⟨a', c', rfl, _⟩ := h2.form
  exact ⟨_, _, _, _, _, _, rfl⟩
theorem RingAt.below {w w' : World} {v : Value} {x : RingM} (h : RingAt w v x) (hb : Below w.heap.size w w') : RingAt w' v x := by
  obtain ⟨va, vn, hv, h1, h2⟩ := h
  exact ⟨va, vn, hv, h1.below hb, h2.below hb⟩
theorem RingOwn.at {lo hi : Nat} {w : World} {v : Value} {x : RingM} (h : RingOwn lo hi w v x) : RingAt w v x := by
  obtain ⟨va, vn, hv, h1, h2⟩ := h
  exact ⟨va, vn, hv, h1.at, h2.at⟩
theorem RingOwn.below {lo hi : Nat} {w w' : World} {v : Value} {x : RingM} (h : RingOwn lo hi w v x) (hb : Below w.heap.size w w') : RingOwn lo hi w' v x := by
  obtain ⟨va, vn, hv, h1, h2⟩ := h
  exact ⟨va, vn, hv, h1.below hb, h2.below hb⟩
theorem RingOwn.wr {lo hi l h' : Nat} {w w' : World} {v : Value} {x : RingM} (h : RingOwn lo hi w v x) (hw : Wr l h' w w') (hl : h' ≤ lo) : RingOwn lo hi w' v x := by
  obtain ⟨va, vn, hv, h1, h2⟩ := h
  exact ⟨va, vn, hv, h1.wr hw hl, h2.wr hw hl⟩
set_option maxHeartbeats 1000000 in
theorem szRing_u (w : World) (v : Value) (x : RingM) (left : Int) (h : RingAt w v x) (h0 : 0 ≤ left) (h1 : left ≤ 1048576) :
    Calls Tryz.prog 5 #[v, .int .i64 left] w fun e w' => (∃ r : Int, e = .returned (.int .i64 r) ∧ r ≤ left ∧ (0 ≤ r → RingSm x)) ∧ Below w.heap.size w w' := by
  obtain ⟨va, vn, rfl, ha, hn⟩ := h
  obtain ⟨ks, ns⟩ := x
  simp only at ha hn
  obtain ⟨a, cap, rfl, hc, hm⟩ := ha.form
  obtain ⟨a', cap', rfl, hc', hm'⟩ := hn.form
  have HX : Hid (Below w.heap.size w (w.alloc (.cells #[.slice a ks.length cap, .slice a' ns.length cap'] 25))) := (Below.refl _ _).alloc (Nat.le_refl _) _
  have HA : Hid (TextsAt w (.slice a ks.length cap) ks) := ha
  have HN : Hid (IntsAt w (.slice a' ns.length cap') ns) := hn
  clear ha hn
  go_enter Tryz.func5, Tryz.ntmps5
  go_wp2_with fail
  refine (szStringS_any _ _ ks _ (HA.out.below HX.out) (by omega) (by omega)).mono ?_
  rintro e w1 ⟨⟨r, rfl, hr1, hr2⟩, hb1⟩
  have HR : Hid (0 ≤ r → ks.length ≤ 1048576) := hr2
  have HB1 : Hid (Below w.heap.size w w1) := HX.out.trans (hb1.mono (by simp <;> omega))
  have c1 : w1.cell? ⟨w.heap.size, 1, none⟩ = some (.slice a' ns.length cap') := (hb1.cell (p := ⟨w.heap.size, 1, none⟩) (by simp)).trans (by simp [go_sem])
  have hz1 : w.heap.size < w1.heap.size := by have := hb1.size; simp at this; omega
  clear hr2 hb1
  by_cases hr : r < 0
  · go_wp2
    go_ret
    exact ⟨⟨-1, rfl, by omega, by omega⟩, HB1.out⟩
  · go_wp2_with fail
    refine (szIntS_any _ _ ns _ (HN.out.below HB1.out) (by omega) (by omega)).mono ?_
    rintro e w2 ⟨⟨q, rfl, hq1, hq2⟩, rfl⟩
    have HQ : Hid (0 ≤ q → ns.length ≤ 1048576) := hq2
    clear hq2
    by_cases hq : q < 0
    · go_wp2
      go_ret
      exact ⟨⟨-1, rfl, by omega, by omega⟩, HB1.out⟩
    · go_wp2
      go_ret
      exact ⟨⟨q, rfl, by omega, fun _ => ⟨HR.out (by omega), HQ.out (by omega)⟩⟩, HB1.out⟩
set_option maxHeartbeats 1000000 in
theorem eqRing_u (w : World) (v u : Value) (x : RingM) (h : RingAt w v x) (h' : RingAt w u x) :
    Calls Tryz.prog 12 #[v, u] w fun e w' => e = .returned (.bool true) ∧ Below w.heap.size w w' := by
  obtain ⟨va, vn, rfl, ha, hn⟩ := h
  obtain ⟨ua, un, rfl, ha', hn'⟩ := h'
  obtain ⟨ks, ns⟩ := x
  simp only at ha hn ha' hn'
  have HA : Hid (TextsAt w va ks) := ha
  have HN : Hid (IntsAt w vn ns) := hn
  have HA' : Hid (TextsAt w ua ks) := ha'
  have HN' : Hid (IntsAt w un ns) := hn'
  have HX : Hid (Below w.heap.size w ((w.alloc (.cells #[va, vn] 40)).alloc (.cells #[ua, un] 40))) := ((Below.refl _ _).alloc (Nat.le_refl _) _).alloc (by simp) _
  clear ha hn ha' hn'
  go_enter Tryz.func12, Tryz.ntmps12
  go_wp2_with fail
  refine (eqStringS_same _ _ _ ks (HA.out.below HX.out) (HA'.out.below HX.out)).mono ?_
  rintro e w1 ⟨rfl, hb1⟩
  have HB1 : Hid (Below w.heap.size w w1) := HX.out.trans (hb1.mono (by simp <;> omega))
  have c1 : w1.cell? ⟨w.heap.size, 1, none⟩ = some vn := (hb1.cell (p := ⟨w.heap.size, 1, none⟩) (by simp <;> omega)).trans (by simp [go_sem])
  have c2 : w1.cell? ⟨w.heap.size + 1, 1, none⟩ = some un := (hb1.cell (p := ⟨w.heap.size + 1, 1, none⟩) (by simp)).trans (by simp [go_sem])
  have hz1 : w.heap.size + 1 < w1.heap.size := by have := hb1.size; simp at this; omega
  clear hb1
  go_wp2_with fail
  refine (eqIntS_same _ _ _ ns (HN.out.below HB1.out) (HN'.out.below HB1.out)).mono ?_
  rintro e w2 ⟨rfl, hb2⟩
  have HB2 : Hid (Below w.heap.size w w2) := HB1.out.trans (hb2.mono HB1.out.size)
  clear hb2
  go_wp2
  go_ret
  exact ⟨rfl, HB2.out⟩
set_option maxHeartbeats 1000000 in
theorem toRing_u (w : World) (v : Value) (x : RingM) (h : RingAt w v x) (hsm : RingSm x) :
    Calls Tryz.prog 8 #[v] w fun e w' => ∃ v', e = .returned v' ∧ RingOwn w.heap.size w'.heap.size w' v' x ∧ Below w.heap.size w w' := by
  obtain ⟨va, vn, rfl, ha, hn⟩ := h
  obtain ⟨ks, ns⟩ := x
  simp only at ha hn
  obtain ⟨hs1, hs2⟩ := hsm
  simp only at hs1 hs2
  obtain ⟨a, cap, rfl, hc, hm⟩ := ha.form
  obtain ⟨a', cap', rfl, hc', hm'⟩ := hn.form
  have HA : Hid (TextsAt w (.slice a ks.length cap) ks) := ha
  have HE : Hid (IntsAt w (.slice a' ns.length cap') ns) := hn
  clear ha hn
  go_enter Tryz.func8, Tryz.ntmps8
  go_wp2_with fail
  refine (toStringS_own _ _ ks (HA.out.below ?b1) hs1).mono ?_
  case b1 => exact (((Below.refl _ _).alloc (Nat.le_refl _) _).alloc (by simp) _).alloc (by simp <;> omega) _
  rintro e w1 ⟨rfl, hA1, hb1⟩
  have HB1 : Hid (Below w.heap.size w w1) := Below.trans ((((Below.refl _ _).alloc (Nat.le_refl _) _).alloc (by simp) _).alloc (by simp <;> omega) _) (hb1.mono (by simp <;> omega))
  obtain ⟨hcl, hfz⟩ := bcell7 hb1
  have hz := hb1.size
  simp only [World.size_alloc] at hA1
  have HA1 : Hid (TextsRow (w.heap.size + 1 + 1 + 1) w1.heap.size w1 (.slice (some ⟨w.heap.size + 1 + 1 + 1, 0, none⟩) ks.length ks.length) ks) := hA1
  simp at hz
  clear hb1 hA1
  go_wp2_with fail
  refine (toIntS_x _ _ ns (HE.out.below (HB1.out.setCell (by simp <;> omega) _)) hs2).mono ?_
  rintro e w3 ⟨rfl, hE3, hb3⟩
  have HB3 : Hid (Below w.heap.size w w3) := (HB1.out.setCell (by simp <;> omega) _).trans (hb3.mono (by rw [Go.Deep.nblk_setCell]; omega))
  obtain ⟨hcl3, hfz3⟩ := bcell7 hb3
  have hz3 := hb3.size
  rw [Go.Deep.nblk_setCell] at hz3
  have HA3 : Hid (TextsRow w.heap.size w3.heap.size w3 (.slice (some ⟨w.heap.size + 1 + 1 + 1, 0, none⟩) ks.length ks.length) ks) := ((HA1.out.weak (by omega) (by omega)).set (p := ⟨w.heap.size + 1 + 1, 0, none⟩) (by simp) _).below hb3
  rw [Go.Deep.nblk_setCell] at hE3 ⊢
  have HE3 : Hid (IntsRow w.heap.size w3.heap.size w3 (.slice (some ⟨w1.heap.size, 0, none⟩) ns.length ns.length) ns) := hE3.weak (by omega) (Nat.le_refl _)
  simp only [Go.Deep.nblk_setCell] at hcl3 hfz3
  have l1 : w.heap.size + 1 < w1.heap.size := by omega
  have l2 : w.heap.size + 1 + 1 < w1.heap.size := by omega
  have q10 : w3.cell? ⟨w.heap.size + 1, 0, none⟩ = some (.slice none 0 0) := by rw [hcl3 _ _ l1, World.cell?_setCell_other _ _ _ _ (by simp), hcl _ _ (by simp)]; simp [go_sem]
  have q11 : w3.cell? ⟨w.heap.size + 1, 1, none⟩ = some (.slice none 0 0) := by rw [hcl3 _ _ l1, World.cell?_setCell_other _ _ _ _ (by simp), hcl _ _ (by simp)]; simp [go_sem]
  have q20 : w3.cell? ⟨w.heap.size + 1 + 1, 0, none⟩ = some (.slice (some ⟨w.heap.size + 1 + 1 + 1, 0, none⟩) ks.length ks.length) := by rw [hcl3 _ _ l2]; exact World.cell?_setCell_same' _ _ _ (by rw [hcl _ _ (by simp)]; simp [go_sem])
  have q21 : w3.cell? ⟨w.heap.size + 1 + 1, 1, none⟩ = some (.slice none 0 0) := by rw [hcl3 _ _ l2, World.cell?_setCell_other _ _ _ _ (by simp), hcl _ _ (by simp)]; simp [go_sem]
  have z10 : w3.frozen? ⟨w.heap.size + 1, 0, none⟩ = false := by rw [hfz3 _ _ l1, World.frozen?_setCell, hfz _ _ (by simp)]; simp [go_sem]
  have z11 : w3.frozen? ⟨w.heap.size + 1, 1, none⟩ = false := by rw [hfz3 _ _ l1, World.frozen?_setCell, hfz _ _ (by simp)]; simp [go_sem]
  have z21 : w3.frozen? ⟨w.heap.size + 1 + 1, 1, none⟩ = false := by rw [hfz3 _ _ l2, World.frozen?_setCell, hfz _ _ (by simp)]; simp [go_sem]
  clear hb3 hE3 hcl hfz hcl3 hfz3
  go_wp2
  refine bodyPost_ret (v := .agg #[.slice (some ⟨w.heap.size + 1 + 1 + 1, 0, none⟩) ks.length ks.length, .slice (some ⟨w1.heap.size, 0, none⟩) ns.length ns.length]) (by simp [results, Tryz.results8, go_sem, q10, q11, World.cell?_setCell_same', World.cell?_setCell_other]) rfl ⟨_, rfl, ⟨_, _, rfl, ?_, ?_⟩, ?_⟩
  · simp only [Go.Deep.nblk_setCell]
    exact ((HA3.out.set (by simp <;> omega) _).set (by simp <;> omega) _).set (by simp <;> omega) _
  · simp only [Go.Deep.nblk_setCell]
    exact ((HE3.out.set (by simp <;> omega) _).set (by simp <;> omega) _).set (by simp <;> omega) _
  · exact ((HB3.out.setCell (by simp <;> omega) _).setCell (by simp <;> omega) _).setCell (by simp <;> omega) _
set_option maxRecDepth 100000 in
theorem open_ringV {H : Type} {enc : TypeId × Value → H} {w : World} {r : Reach} {b0 base : Nat} {spare : Nat → Bool} {held : Bool} {v : Value} {d : DataW H} {p : List MemPlace}
    (hv : Value.okWide Tryz.prog w r b0 25 v) (h : DataW.Trod enc Tryz.prog w base spare held 25 v d p) :
    ∃ va vn ks ns, v = .agg #[va, vn] ∧ RingAt w (.agg #[va, vn]) (ks, ns) := by
  obtain ⟨cs, rfl, hsz⟩ := okWide_struct Tryz.underlying25 hv
  obtain ⟨c0, c1, rfl⟩ : ∃ va ve, cs = #[va, ve] := by
    have h2 : cs.size = 2 := hsz.trans (by kernel_rfl)
    obtain ⟨l⟩ := cs
    match l, h2 with
    | [x, y], _ => exact ⟨x, y, rfl⟩
  obtain ⟨fuel, hf⟩ := h
  obtain ⟨xs, n, rfl, hx, hl, hn, hall⟩ := DataW.trod_struct Tryz.underlying25 hf
  have k0 := hall 0 _ rfl
  have k1 := hall 1 _ rfl
  have o9 : Tryz.prog.cellsOf 22 = 1 := by kernel_rfl
  have o22 : Tryz.prog.cellsOf 23 = 1 := by kernel_rfl
  match xs, hn with
  | [y0, y1], _ =>
    simp [Value.cells, o9, o22] at k0 k1
    obtain ⟨ks, hks⟩ := open_texts k0
    obtain ⟨ns, hns⟩ := open_intsV k1
    exact ⟨c0, c1, ks, ns, rfl, ⟨c0, c1, rfl, hks, hns⟩⟩
set_option maxHeartbeats 1000000 in
theorem markRing_u (lo hi k : Nat) (w : World) (v : Value) (x : RingM) (h : RingOwn lo hi w v x) (hs : RingSm x) (hk : k ≤ 10000000000) (hlo : hi ≤ w.heap.size) (hlh : lo ≤ hi) :
    Calls Tryz.prog 14 #[v, .int .i64 k] w fun e w' => e = .returned (.int .i64 ((k + ringCnt x : Nat) : Int)) ∧ RingOwn lo hi w' v (ringMk k x) ∧ Wr lo hi w w' := by
  obtain ⟨va, vn, rfl, ha, he⟩ := h
  obtain ⟨ks, ns⟩ := x
  simp only [ringCnt, ringMk, RingSm] at *
  have HA : Hid (TextsRow lo hi w va ks) := ha
  have HE : Hid (IntsRow lo hi w vn ns) := he
  obtain ⟨hs1, hs2⟩ := hs
  have hlo2 : lo ≤ w.heap.size := by omega
  clear ha he
  have HB0 : Hid (Below w.heap.size w (w.alloc (.cells #[va, vn] 40))) := (Below.refl _ _).alloc (Nat.le_refl _) _
  go_enter Tryz.func14, Tryz.ntmps14
  go_wp2_with fail
  refine (markStringS_r lo hi k _ va ks.length _ (HA.out.below HB0.out).1 (by omega) (by omega) (by simp; omega)).mono ?_
  rintro e w1 ⟨rfl, hA1, hw1, hg1⟩
  have HW1 : Hid (Wr lo hi w w1) := (Wr.of_below HB0.out hlo2).trans hw1
  have HA1 : Hid (TextsRow lo hi w1 va (marks k ks.length)) := hA1
  have HE1 : Hid (IntsRow lo hi w1 vn ns) := RowOwn.apart (HE.out.below HB0.out) (HA.out.below HB0.out).1 (by decide) hg1
  have c1 : w1.cell? ⟨w.heap.size, 1, none⟩ = some vn := box_cell hw1 hlo 1
  have hz1 : w.heap.size < w1.heap.size := by have := hw1.sz; simp at this; omega
  clear hA1 hw1 hg1
  go_wp2_with fail
  refine (markIntS_r lo hi (k + ks.length) _ vn ns.length _ HE1.out (by omega) (by omega) (by omega)).mono ?_
  rintro e w2 ⟨rfl, hE2, hw2, hg2⟩
  have HW2 : Hid (Wr lo hi w w2) := HW1.out.trans hw2
  have HA2 : Hid (TextsRow lo hi w2 va (marks k ks.length)) := ⟨HA1.out.1.apart HE1.out (by decide) hg2, HA1.out.2⟩
  have HE2 : Hid (IntsRow lo hi w2 vn (numsK (k + ks.length) ns.length)) := hE2
  clear hE2 hw2 hg2
  go_wp2
  go_ret
  exact ⟨by push_cast; rw [Int.add_assoc]; rfl, ⟨va, vn, rfl, HA2.out, HE2.out⟩, HW2.out⟩
end Go.Proofs.YtkepmjebnkcbgaaGreatDoor
/-
  What a ring that is ok is; the key of a number.
-/
namespace Go.Proofs.YtkepmjebnkcbgaaGreatDoor
open Go.RowKit
set_option linter.unusedVariables false
theorem listInj401 {a b : ByteArray} (h : a.toList = b.toList) : a = b := by
  rw [ByteArray.toList_eq, ByteArray.toList_eq] at h
  apply ByteArray.ext
  exact Array.toList_inj.1 h
/-- A ring is ok. -/
def RingGood (x : RingM) : Prop :=
  1 ≤ x.1.length ∧ x.1.length ≤ 5 ∧ x.2.length = x.1.length ∧ x.2[0]? = some 1 ∧ (∀ (i : Nat) (k : ByteArray), x.1[i]? = some k → keyT k = true ∧ ∀ (j : Nat), j < i → x.1[j]? ≠ some k) ∧
    (∀ (i : Nat) (a b : Int), x.2[i]? = some a → x.2[i + 1]? = some b → a < b) ∧ ∀ (i : Nat) (b : Int), x.2[i]? = some b → b ≤ 999999
open Classical in
noncomputable def ringOk (x : RingM) : Bool := decide (RingGood x)
theorem ringOk_t {x : RingM} (h : RingGood x) : ringOk x = true := by unfold ringOk; classical exact decide_eq_true h
theorem ringOk_f {x : RingM} (h : ¬ RingGood x) : ringOk x = false := by unfold ringOk; classical exact decide_eq_false h
theorem ringOk_good {x : RingM} (h : ringOk x = true) : RingGood x := by unfold ringOk at h; classical exact of_decide_eq_true h
/-- Keys so far: each is a key, and none twice. -/
def KeysTo (ks : List ByteArray) (n : Nat) : Prop := ∀ (i : Nat) (k : ByteArray), i < n → ks[i]? = some k → keyT k = true ∧ ∀ (j : Nat), j < i → ks[j]? ≠ some k
def AscTo (ns : List Int) (n : Nat) : Prop := ∀ (i : Nat) (a b : Int), i + 1 < n → ns[i]? = some a → ns[i + 1]? = some b → a < b
theorem KeysTo.zero (ks : List ByteArray) : KeysTo ks 0 := fun i k h => absurd h (by omega)
theorem KeysTo.succ {ks : List ByteArray} {n : Nat} {k : ByteArray} (h : KeysTo ks n) (hk : ks[n]? = some k) (h1 : keyT k = true) (h2 : ∀ (j : Nat), j < n → ks[j]? ≠ some k) : KeysTo ks (n + 1) := fun i x hi hx => by
  by_cases e : i = n
  · subst e
    rw [hk] at hx
    cases hx
    exact ⟨h1, h2⟩
  · exact h i x (by omega) hx
theorem AscTo.succ {ns : List Int} {n : Nat} (h : AscTo ns n) (h2 : ∀ (a b : Int), 0 < n → ns[n - 1]? = some a → ns[n]? = some b → a < b) : AscTo ns (n + 1) := fun i a b hi ha hb => by
  by_cases e : i + 1 = n
  · subst e
    exact h2 a b (by omega) (by simpa using ha) hb
  · exact h i a b (by omega) ha hb
/-- The last is the greatest. -/
theorem AscTo.le_last {ns : List Int} {n : Nat} (h : AscTo ns n) (hn : ns.length = n) {z : Int} (hz : ns[n - 1]? = some z) (h0 : 0 < n) : ∀ (d i : Nat) (b : Int), i + d + 1 = n → ns[i]? = some b → b ≤ z := by
  intro d
  induction d with
  | zero =>
    intro i b hi hb
    have : i = n - 1 := by omega
    subst this
    rw [hz] at hb
    cases hb
    exact Int.le_refl _
  | succ d ih =>
    intro i b hi hb
    have hlt : i + 1 < ns.length := by omega
    have hc := List.getElem?_eq_getElem hlt
    have := h i b _ (by omega) hb hc
    have := ih (i + 1) _ (by omega) hc
    omega
theorem RingGood.of {x : RingM} {n : Nat} (h1 : 1 ≤ n) (h2 : n ≤ 5) (h3 : x.1.length = n) (h4 : x.2.length = n) (h5 : x.2[0]? = some 1) (hk : KeysTo x.1 n) (ha : AscTo x.2 n) {z : Int} (hz : x.2[n - 1]? = some z) (hl : z ≤ 999999) : RingGood x := by
  refine ⟨by omega, by omega, by omega, h5, fun i k hk' => hk i k (by have := (List.getElem?_eq_some_iff.1 hk').1; omega) hk', fun i a b ha' hb' => ha i a b (by have := (List.getElem?_eq_some_iff.1 hb').1; omega) ha' hb', fun i b hb => ?_⟩
  have hi := (List.getElem?_eq_some_iff.1 hb).1
  exact Int.le_trans (ha.le_last h4 hz (by omega) (n - 1 - i) i b (by omega) hb) hl
/-- The key of a number. -/
def keyOf : List ByteArray → List Int → Int → ByteArray → ByteArray
  | k :: ks, f :: fs, n, c => keyOf ks fs n (if f ≤ n then k else c)
  | _, _, _, c => c
theorem keyOf_snoc : ∀ (ks : List ByteArray) (fs : List Int) (n : Int) (c k : ByteArray) (f : Int), ks.length = fs.length → keyOf (ks ++ [k]) (fs ++ [f]) n c = if f ≤ n then k else keyOf ks fs n c
  | [], [], n, c, k, f, _ => rfl
  | a :: ks, b :: fs, n, c, k, f, h => by
    simp only [List.cons_append, keyOf]
    exact keyOf_snoc ks fs n _ k f (by simpa using h)
  | [], b :: fs, n, c, k, f, h => by simp at h
  | a :: ks, [], n, c, k, f, h => by simp at h
theorem keyOf_take {ks : List ByteArray} {fs : List Int} {n : Int} {j : Nat} {k : ByteArray} {f : Int} (hk : ks[j]? = some k) (hf : fs[j]? = some f) : keyOf (ks.take (j + 1)) (fs.take (j + 1)) n ⟨#[]⟩ = if f ≤ n then k else keyOf (ks.take j) (fs.take j) n ⟨#[]⟩ := by
  have h1 := (List.getElem?_eq_some_iff.1 hk).1
  have h2 := (List.getElem?_eq_some_iff.1 hf).1
  rw [List.take_add_one, List.take_add_one, hk, hf]
  exact keyOf_snoc _ _ _ _ _ _ (by simp [List.length_take]; omega)
noncomputable def rkT (x : RingM) (n : Int) : ByteArray := if ringOk x then keyOf x.1 x.2 n ⟨#[]⟩ else ⟨#[]⟩
set_option maxHeartbeats 1000000 in
theorem tIndex_any (w : World) (v : Value) (xs : List ByteArray) (x : ByteArray) (h : TextsAt w v xs) :
    Calls Tryz.prog 125 #[v, .string x] w fun e w' => (∃ r : Int, e = .returned (.int .i64 r) ∧ (0 ≤ r → ∃ j : Nat, xs[j]? = some x) ∧ (r < 0 → ∀ j : Nat, xs[j]? ≠ some x)) ∧ w' = w := by
  obtain ⟨a, cap, rfl, hc, hm⟩ := h.form
  have HS : Hid (TextsAt w (.slice a xs.length cap) xs) := h
  clear h
  unfold maxLen at hm
  go_enter Tryz.func125, Tryz.ntmps125
  go_wp2
  go_loop [8] (fun i => ∃ (k : Nat), k ≤ xs.length ∧ i = .int .i64 k ∧ ∀ j : Nat, j < k → xs[j]? ≠ some x) (fun i => xs.length - (intOf i).toNat)
  case atStart => exact ⟨0, Nat.zero_le _, rfl, fun j hj => absurd hj (by omega)⟩
  case round =>
    obtain ⟨k, hk, rfl, hni⟩ := hrel
    have HNI : Hid (∀ j : Nat, j < k → xs[j]? ≠ some x) := hni
    clear hni
    by_cases hlt : k < xs.length
    · obtain ⟨b, off, cap1, y, hv, hbl, hy, hyf, e0⟩ := HS.out.at hlt
      cases hv
      have HY : Hid (xs[k]? = some y) := hy
      clear hy
      by_cases hq : x.toList = y.toList
      · have HE : Hid (xs[k]? = some x) := by show _ = _; rw [listInj401 hq]; exact HY.out
        go_wp2
        go_ret
        exact ⟨⟨k, rfl, fun _ => ⟨k, HE.out⟩, fun hh => absurd hh (by omega)⟩, rfl⟩
      · have hq' : (x.toList == y.toList) = false := by simpa using hq
        have HQ : Hid (x ≠ y) := fun e => hq (by rw [e])
        clear hq
        go_wp2
        go_round
        case rel =>
          refine ⟨k + 1, by omega, by go_num, fun j hj => ?_⟩
          by_cases e : j = k
          · subst e
            rw [HY.out]
            intro h
            exact HQ.out (by injection h with h; exact h.symm)
          · exact HNI.out j (by omega)
        case measure => simp [intOf]; omega
    · go_wp2
      go_ret
      refine ⟨⟨-1, rfl, fun hh => absurd hh (by omega), fun _ j hj => ?_⟩, rfl⟩
      have := (List.getElem?_eq_some_iff.1 hj).1
      exact HNI.out j (by omega) hj
def textIn (xs : List ByteArray) (x : ByteArray) : Bool := xs.any fun y => decide (y = x)
theorem textIn_t {xs : List ByteArray} {x : ByteArray} {j : Nat} (h : xs[j]? = some x) : textIn xs x = true := by
  unfold textIn
  rw [List.any_eq_true]
  exact ⟨x, List.mem_of_getElem? h, by simp⟩
theorem textIn_f {xs : List ByteArray} {x : ByteArray} (h : ∀ j : Nat, xs[j]? ≠ some x) : textIn xs x = false := by
  unfold textIn
  rw [List.any_eq_false]
  intro y hy e
  have e2 : y = x := by simpa using e
  subst e2
  obtain ⟨j, hj, he⟩ := List.getElem_of_mem hy
  exact h j (by rw [← he]; exact List.getElem?_eq_getElem hj)
theorem textIn_iff {xs : List ByteArray} {x : ByteArray} : textIn xs x = true ↔ ∃ j : Nat, xs[j]? = some x := by
  constructor
  · intro h
    rcases Classical.em (∃ j : Nat, xs[j]? = some x) with hh | hh
    · exact hh
    · rw [textIn_f (fun j hj => hh ⟨j, hj⟩)] at h; cases h
  · rintro ⟨j, hj⟩; exact textIn_t hj
set_option maxHeartbeats 1000000 in
theorem tContains_any (w : World) (v : Value) (xs : List ByteArray) (x : ByteArray) (h : TextsAt w v xs) :
    Calls Tryz.prog 101 #[v, .string x] w fun e w' => e = .returned (.bool (textIn xs x)) ∧ w' = w := by
  obtain ⟨a, cap, rfl, hc, hm⟩ := h.form
  have HS : Hid (TextsAt w (.slice a xs.length cap) xs) := h
  clear h
  go_enter Tryz.func101, Tryz.ntmps101
  go_wp2_with fail
  refine (tIndex_any _ _ xs x HS.out).mono ?_
  rintro e w' ⟨⟨r, rfl, hr1, hr2⟩, rfl⟩
  have HR : Hid (decide (0 ≤ r) = textIn xs x) := by
    show decide (0 ≤ r) = textIn xs x
    by_cases h0 : 0 ≤ r
    · obtain ⟨j, hj⟩ := hr1 h0
      rw [textIn_t hj]; exact decide_eq_true h0
    · rw [textIn_f (hr2 (by omega))]; exact decide_eq_false h0
  clear hr1 hr2
  go_wp2
  go_ret
  rw [← HR.out]
  exact ⟨rfl, rfl⟩
end Go.Proofs.YtkepmjebnkcbgaaGreatDoor
/-
  RingOk of both.
-/
namespace Go.Proofs.YtkepmjebnkcbgaaGreatDoor
open Go.RowKit
set_option linter.unusedVariables false
theorem TextsAt.take402 {w : World} {b off cap : Nat} {xs : List ByteArray} (h : TextsAt w (.slice (some ⟨b, off, none⟩) xs.length cap) xs) {k : Nat} (hk : k ≤ xs.length) : TextsAt w (.slice (some ⟨b, off, none⟩) k cap) (xs.take k) := by
  obtain ⟨a, cap', hv, hc, hm, hf, hh⟩ := h
  cases hv
  have hl : (xs.take k).length = k := by simp [List.length_take]; omega
  refine ⟨some ⟨b, off, none⟩, cap, by rw [hl], by omega, by omega, fun i x hx => hf i x ?_, fun hn => ?_⟩
  · have hi : i < k := by have := (List.getElem?_eq_some_iff.1 hx).1; omega
    rwa [List.getElem?_take_of_lt hi] at hx
  · have h1 : xs ≠ [] := by rintro rfl; simp at hn
    obtain ⟨b', off', ha, h2, h3⟩ := hh h1
    cases ha
    refine ⟨b, off, rfl, h2, fun i x hx => h3 i x ?_⟩
    have hi : i < k := by have := (List.getElem?_eq_some_iff.1 hx).1; omega
    rwa [List.getElem?_take_of_lt hi] at hx
def LenIs (ns : List Int) (n : Nat) : Prop := ns.length = n
theorem not_good_key {ks : List ByteArray} {ns : List Int} {i : Nat} {k : ByteArray} (hk : ks[i]? = some k) (h : keyT k = false) : ¬ RingGood (ks, ns) := fun g => by
  have := (g.2.2.2.2.1 i k hk).1
  rw [h] at this
  cases this
theorem not_good_twice {ks : List ByteArray} {ns : List Int} {i j : Nat} {k : ByteArray} (hk : ks[i]? = some k) (hj : j < i) (h : ks[j]? = some k) : ¬ RingGood (ks, ns) := fun g => (g.2.2.2.2.1 i k hk).2 j hj h
theorem not_good_asc {ks : List ByteArray} {ns : List Int} {i : Nat} {a b : Int} (ha : ns[i]? = some a) (hb : ns[i + 1]? = some b) (h : ¬ a < b) : ¬ RingGood (ks, ns) := fun g => h (g.2.2.2.2.2.1 i a b ha hb)
theorem not_good_big {ks : List ByteArray} {ns : List Int} {i : Nat} {a : Int} (ha : ns[i]? = some a) (h : ¬ a ≤ 999999) : ¬ RingGood (ks, ns) := fun g => h (g.2.2.2.2.2.2 i a ha)
theorem take_none {xs : List ByteArray} {k : Nat} {x : ByteArray} (h : textIn (xs.take k) x = false) : ∀ (j : Nat), j < k → xs[j]? ≠ some x := fun j hj hx => by
  have : textIn (xs.take k) x = true := textIn_t (j := j) (by rw [List.getElem?_take_of_lt hj]; exact hx)
  rw [h] at this
  cases this
theorem take_some {xs : List ByteArray} {k : Nat} {x : ByteArray} (h : textIn (xs.take k) x = true) : ∃ j, j < k ∧ xs[j]? = some x := by
  obtain ⟨j, hj⟩ := textIn_iff.1 h
  have hlt : j < k := by have := (List.getElem?_eq_some_iff.1 hj).1; rw [List.length_take] at this; omega
  exact ⟨j, hlt, by rwa [List.getElem?_take_of_lt hlt] at hj⟩
set_option maxHeartbeats 2000000 in
theorem implRingOk_any (w : World) (v : Value) (x : RingM) (h : RingAt w v x) :
    Calls Tryz.prog 63 #[v] w fun e w' => e = .returned (.bool (ringOk x)) ∧ Below w.heap.size w w' := by
  obtain ⟨va, vn, rfl, ha, hn⟩ := h
  obtain ⟨ks, ns⟩ := x
  simp only at ha hn
  obtain ⟨a, cap, rfl, hc, hm⟩ := ha.form
  obtain ⟨a', cap', rfl, hc', hm'⟩ := hn.form
  have HA : Hid (TextsAt w (.slice a ks.length cap) ks) := ha
  have HN : Hid (IntsAt w (.slice a' ns.length cap') ns) := hn
  have HB0 : Hid (Below w.heap.size w (w.alloc (.cells #[.slice a ks.length cap, .slice a' ns.length cap'] 40))) := (Below.refl _ _).alloc (Nat.le_refl _) _
  unfold maxLen at hm hm'
  clear ha hn
  by_cases h1 : ks.length < 1
  · have HF : Hid (ringOk (ks, ns) = false) := ringOk_f fun g => by have := g.1; simp only at this; omega
    go_enter Tryz.func63, Tryz.ntmps63
    go_wp2_with fail
    go_ret
    exact ⟨ret_bool (by rw [HF.out]), HB0.out⟩
  · by_cases h2 : 5 < ks.length
    · have HF : Hid (ringOk (ks, ns) = false) := ringOk_f fun g => by have := g.2.1; simp only at this; omega
      go_enter Tryz.func63, Tryz.ntmps63
      go_wp2_with fail
      go_ret
      exact ⟨ret_bool (by rw [HF.out]), HB0.out⟩
    · by_cases h3 : ns.length = ks.length
      · obtain ⟨bn, offn, capn, z0, hvn, hbn, hz0, e0⟩ := HN.out.at (k := 0) (by omega)
        cases hvn
        rw [Nat.add_zero] at e0
        have e0' : (w.alloc (.cells #[.slice a ks.length cap, .slice (some ⟨bn, offn, none⟩) ns.length cap'] 40)).cell? ⟨bn, offn, none⟩ = some (.int .i64 z0) := (HB0.out.cell (p := ⟨bn, offn, none⟩) hbn).trans e0
        have HZ0 : Hid (ns[0]? = some z0) := hz0
        have HL : Hid (LenIs ns ks.length) := h3
        rw [h3] at *
        clear h3 hz0
        by_cases h4 : z0 = 1
        · subst h4
          have i1 : ¬ ((ks.length : Int) < 1) := by omega
          have i2 : ¬ ((5 : Int) < ks.length) := by omega
          have i3 : ((ks.length : Int) == (ks.length : Int)) = true := by simp
          go_enter Tryz.func63, Tryz.ntmps63
          go_wp2_with fail
          go_loopw [34] (fun i wr => ∃ (k : Nat), k ≤ ks.length ∧ i = .int .i64 k ∧ KeysTo ks k ∧ AscTo ns k ∧ Below w.heap.size w wr ∧ w.heap.size < wr.heap.size ∧ wr.cell? ⟨w.heap.size, 0, none⟩ = some (.slice a ks.length cap) ∧ wr.cell? ⟨w.heap.size, 1, none⟩ = some (.slice (some ⟨bn, offn, none⟩) ks.length cap')) (fun i _ => ks.length - (intOf i).toNat)
          case atStart => exact ⟨0, Nat.zero_le _, rfl, KeysTo.zero _, fun i a b hi => absurd hi (by omega), HB0.out, by simp, by simp [go_sem], by simp [go_sem]⟩
          case round =>
            obtain ⟨k, hk, rfl, hkt, hat, hb, hlt0, s0, s1⟩ := hrel
            have HB : Hid (Below w.heap.size w wr) := hb
            have HKT : Hid (KeysTo ks k) := hkt
            have HAT : Hid (AscTo ns k) := hat
            clear hb hkt hat
            by_cases hlt : k < ks.length
            · obtain ⟨b, off, cap1, y, hv, hbl, hy, hyf, c0⟩ := (HA.out.below HB.out).at (k := k) hlt
              cases hv
              have HA1 : Hid (TextsAt wr (.slice (some ⟨b, off, none⟩) k cap) (ks.take k)) := ((HA.out.below HB.out).take402 (Nat.le_of_lt hlt))
              have HY : Hid (ks[k]? = some y) := hy
              have HYF : Hid (y.size ≤ maxLen) := hyf
              have hlt' : (k : Int) < ks.length := by omega
              have hkc : (k : Int) ≤ cap := by omega
              clear hy hyf
              cases hkey : keyT y with
              | false =>
                have HF : Hid (ringOk (ks, ns) = false) := ringOk_f (not_good_key HY.out hkey)
                go_wp2_with fail
                go_quiet ((first | (go_at_call 51; refine (keyOk_any y _ HYF.out).mono ?_; rintro e w'' ⟨he, rfl⟩; rw [hkey] at he; subst he; exact ⟨rfl, _, rfl⟩)))
                go_wp2
                go_ret
                exact ⟨ret_bool (by rw [HF.out]), below_drewN70 HB.out _⟩
              | true =>
                cases hin : textIn (ks.take k) y with
                | true =>
                  obtain ⟨j, hj, hjy⟩ := take_some hin
                  have HF : Hid (ringOk (ks, ns) = false) := ringOk_f (not_good_twice HY.out hj hjy)
                  go_wp2_with fail
                  go_quiet ((first | (go_at_call 51; refine (keyOk_any y _ HYF.out).mono ?_; rintro e w'' ⟨he, rfl⟩; rw [hkey] at he; subst he; exact ⟨rfl, _, rfl⟩) | (go_at_call 101; refine (tContains_any _ _ _ y (HA1.out.below (below_drewN70 (Below.refl _ _) _))).mono ?_; rintro e w'' ⟨he, rfl⟩; rw [hin] at he; subst he; exact ⟨rfl, _, rfl⟩)))
                  go_wp2
                  go_ret
                  exact ⟨ret_bool (by rw [HF.out]), below_drewN70 HB.out _⟩
                | false =>
                  by_cases hk0 : k = 0
                  · subst hk0
                    rw [Nat.add_zero] at c0
                    go_wp2_with fail
                    go_quiet ((first | (go_at_call 51; refine (keyOk_any y _ HYF.out).mono ?_; rintro e w'' ⟨he, rfl⟩; rw [hkey] at he; subst he; exact ⟨rfl, _, rfl⟩) | (go_at_call 101; refine (tContains_any _ _ _ y (HA1.out.below (below_drewN70 (Below.refl _ _) _))).mono ?_; rintro e w'' ⟨he, rfl⟩; rw [hin] at he; subst he; exact ⟨rfl, _, rfl⟩)))
                    go_wp2
                    go_roundw
                    case rel => exact ⟨0 + 1, by omega, by go_num, HKT.out.succ HY.out hkey (take_none hin), HAT.out.succ (fun a b h0 => absurd h0 (by omega)), below_drewN70 HB.out _, hlt0, s0, s1⟩
                    case measure => simp [intOf]; omega
                  · have q0 : (0 : Int) < (k : Int) := by omega
                    obtain ⟨k1, hk1⟩ : ∃ k1, k = k1 + 1 := ⟨k - 1, by omega⟩
                    obtain ⟨b1, off1, cp1, za, hv1, hbl1, hza, d0⟩ := (HN.out.below HB.out).at (k := k1) (by have hl : ns.length = ks.length := HL.out; omega)
                    rw [show ns.length = ks.length from HL.out] at hv1
                    cases hv1
                    obtain ⟨b2, off2, cp2, zb, hv2, hbl2, hzb, d1⟩ := (HN.out.below HB.out).at (k := k) (by have hl : ns.length = ks.length := HL.out; omega)
                    rw [show ns.length = ks.length from HL.out] at hv2
                    cases hv2
                    have HZA : Hid (ns[k1]? = some za) := hza
                    have HZB : Hid (ns[k]? = some zb) := hzb
                    clear hza hzb
                    have q1 : IntKind.i64.wrap ((k : Int) - 1) = (k1 : Int) := by rw [show ((k : Int) - 1) = (k1 : Int) by omega]; exact IntWalk.i64_in _ (by omega)
                    have q2 : (k1 : Int) < ks.length := by omega
                    have HK1 : Hid (k = k1 + 1) := hk1
                    have q0n : 0 < k := by omega
                    have q2n : k1 < ks.length := by omega
                    clear hk1 hk0
                    by_cases hab : za < zb
                    · have q3 : ¬ (zb ≤ za) := by omega
                      go_wp2_with fail
                      go_quiet ((first | (go_at_call 51; refine (keyOk_any y _ HYF.out).mono ?_; rintro e w'' ⟨he, rfl⟩; rw [hkey] at he; subst he; exact ⟨rfl, _, rfl⟩) | (go_at_call 101; refine (tContains_any _ _ _ y (HA1.out.below (below_drewN70 (Below.refl _ _) _))).mono ?_; rintro e w'' ⟨he, rfl⟩; rw [hin] at he; subst he; exact ⟨rfl, _, rfl⟩)))
                      go_wp2
                      go_roundw
                      case rel => exact ⟨k + 1, by omega, by go_num, HKT.out.succ HY.out hkey (take_none hin), HAT.out.succ (fun a b h0 ha hb => by rw [show k - 1 = k1 by have := HK1.out; omega, HZA.out] at ha; rw [HZB.out] at hb; cases ha; cases hb; exact hab), below_drewN70 HB.out _, hlt0, s0, s1⟩
                      case measure => simp [intOf]; omega
                    · have q3 : zb ≤ za := by omega
                      have HF : Hid (ringOk (ks, ns) = false) := ringOk_f (not_good_asc HZA.out (by rw [← HK1.out]; exact HZB.out) hab)
                      go_wp2_with fail
                      go_quiet ((first | (go_at_call 51; refine (keyOk_any y _ HYF.out).mono ?_; rintro e w'' ⟨he, rfl⟩; rw [hkey] at he; subst he; exact ⟨rfl, _, rfl⟩) | (go_at_call 101; refine (tContains_any _ _ _ y (HA1.out.below (below_drewN70 (Below.refl _ _) _))).mono ?_; rintro e w'' ⟨he, rfl⟩; rw [hin] at he; subst he; exact ⟨rfl, _, rfl⟩)))
                      go_wp2
                      go_ret
                      exact ⟨ret_bool (by rw [HF.out]), below_drewN70 HB.out _⟩
            · have hke : k = ks.length := by omega
              subst hke
              obtain ⟨b1, off1, cp1, za, hv1, hbl1, hza, d0⟩ := (HN.out.below HB.out).at (k := ks.length - 1) (by have hl : ns.length = ks.length := HL.out; omega)
              rw [show ns.length = ks.length from HL.out] at hv1
              cases hv1
              have HZA : Hid (ns[ks.length - 1]? = some za) := hza
              have q1 : (ks.length : Int) - 1 = ((ks.length - 1 : Nat) : Int) := by omega
              have q2 : ((ks.length - 1 : Nat) : Int) < ks.length := by omega
              clear hza
              by_cases hz : za ≤ 999999
              · have HF : Hid (ringOk (ks, ns) = true) := ringOk_t (RingGood.of (n := ks.length) (by omega) (by omega) rfl HL.out HZ0.out HKT.out HAT.out HZA.out hz)
                go_wp2
                go_ret
                exact ⟨ret_bool (by rw [HF.out]), HB.out⟩
              · have HF : Hid (ringOk (ks, ns) = false) := ringOk_f (not_good_big HZA.out hz)
                go_wp2
                go_ret
                exact ⟨ret_bool (by rw [HF.out]), HB.out⟩
        · have HF : Hid (ringOk (ks, ns) = false) := ringOk_f fun g => by have := g.2.2.2.1; simp only at this; rw [HZ0.out] at this; cases this; exact h4 rfl
          have h4' : (z0 == 1) = false := by simpa using h4
          have i1 : ¬ ((ks.length : Int) < 1) := by omega
          have i2 : ¬ ((5 : Int) < ks.length) := by omega
          have i3 : ((ks.length : Int) == (ks.length : Int)) = true := by simp
          clear h4
          go_enter Tryz.func63, Tryz.ntmps63
          go_wp2_with fail
          go_ret
          exact ⟨ret_bool (by rw [HF.out]), HB0.out⟩
      · have HF : Hid (ringOk (ks, ns) = false) := ringOk_f fun g => by have := g.2.2.1; simp only at this; omega
        have h3' : ((ns.length : Int) == (ks.length : Int)) = false := by simp; omega
        have i1 : ¬ ((ks.length : Int) < 1) := by omega
        have i2 : ¬ ((5 : Int) < ks.length) := by omega
        go_enter Tryz.func63, Tryz.ntmps63
        go_wp2_with fail
        go_ret
        exact ⟨ret_bool (by rw [HF.out]), HB0.out⟩
end Go.Proofs.YtkepmjebnkcbgaaGreatDoor
/-
  The specification's RingOk.
-/
namespace Go.Proofs.YtkepmjebnkcbgaaGreatDoor
open Go.RowKit
set_option linter.unusedVariables false
/-- Numbers so far, each greater than the one ahead, and not too great. -/
def AscBig (ns : List Int) (n : Nat) : Prop := ∀ (i : Nat) (a b : Int), i + 1 < n → ns[i]? = some a → ns[i + 1]? = some b → a < b ∧ b ≤ 999999
theorem AscBig.one (ns : List Int) : AscBig ns 1 := fun i a b hi => absurd hi (by omega)
theorem AscBig.succ {ns : List Int} {n : Nat} (h : AscBig ns n) (h2 : ∀ (a b : Int), ns[n - 1]? = some a → ns[n]? = some b → a < b ∧ b ≤ 999999) : AscBig ns (n + 1) := fun i a b hi ha hb => by
  by_cases e : i + 1 = n
  · subst e
    exact h2 a b (by simpa using ha) hb
  · exact h i a b (by omega) ha hb
theorem RingGood.of_spec {x : RingM} (h1 : 1 ≤ x.1.length) (h2 : x.1.length ≤ 5) (h3 : x.2.length = x.1.length) (h5 : x.2[0]? = some 1) (hk : KeysTo x.1 x.1.length) (ha : AscBig x.2 x.2.length) : RingGood x := by
  refine ⟨h1, h2, h3, h5, fun i k hk' => hk i k (List.getElem?_eq_some_iff.1 hk').1 hk', fun i a b ha' hb' => (ha i a b (List.getElem?_eq_some_iff.1 hb').1 ha' hb').1, fun i b hb => ?_⟩
  have hi := (List.getElem?_eq_some_iff.1 hb).1
  match i, hb with
  | 0, hb => rw [h5] at hb; cases hb; omega
  | i + 1, hb => exact (ha i _ b hi (List.getElem?_eq_getElem (by omega)) hb).2
set_option maxHeartbeats 4000000 in
theorem specRingOk_any (w : World) (v : Value) (x : RingM) (h : RingAt w v x) :
    Calls Tryz.prog 24 #[v] w fun e w' => e = .returned (.bool (ringOk x)) ∧ Below w.heap.size w w' := by
  obtain ⟨va, vn, rfl, ha, hn⟩ := h
  obtain ⟨ks, ns⟩ := x
  simp only at ha hn
  obtain ⟨a, cap, rfl, hc, hm⟩ := ha.form
  obtain ⟨a', cap', rfl, hc', hm'⟩ := hn.form
  have HA : Hid (TextsAt w (.slice a ks.length cap) ks) := ha
  have HN : Hid (IntsAt w (.slice a' ns.length cap') ns) := hn
  have HB0 : Hid (Below w.heap.size w (w.alloc (.cells #[.slice a ks.length cap, .slice a' ns.length cap'] 40))) := (Below.refl _ _).alloc (Nat.le_refl _) _
  unfold maxLen at hm hm'
  clear ha hn
  go_enter Tryz.func24, Tryz.ntmps24
  go_wp2_with fail
  go_loopw [3] (fun i wr => ∃ (k : Nat), k ≤ ks.length ∧ i = .int .i64 k ∧ KeysTo ks k ∧ Below w.heap.size w wr ∧ w.heap.size < wr.heap.size ∧ wr.cell? ⟨w.heap.size, 0, none⟩ = some (.slice a ks.length cap) ∧ wr.cell? ⟨w.heap.size, 1, none⟩ = some (.slice a' ns.length cap')) (fun i _ => ks.length - (intOf i).toNat)
  case atStart => exact ⟨0, Nat.zero_le _, rfl, KeysTo.zero _, HB0.out, by simp, by simp [go_sem], by simp [go_sem]⟩
  case round =>
    obtain ⟨k, hk, rfl, hkt, hb, hlt0, s0, s1⟩ := hrel
    have HB : Hid (Below w.heap.size w wr) := hb
    have HKT : Hid (KeysTo ks k) := hkt
    clear hb hkt
    by_cases hlt : k < ks.length
    · obtain ⟨b, off, cap1, y, hv, hbl, hy, hyf, c0⟩ := (HA.out.below HB.out).at (k := k) hlt
      cases hv
      have HY : Hid (ks[k]? = some y) := hy
      have HYF : Hid (y.size ≤ maxLen) := hyf
      clear hy hyf
      cases hkey : keyT y with
      | false =>
        have HF : Hid (ringOk (ks, ns) = false) := ringOk_f (not_good_key HY.out hkey)
        go_wp2_with (go_at_call 42; refine (l6Key_any y _ HYF.out).mono ?_; rintro e w' ⟨he, hw⟩; have hw2 := hw.symm; clear hw; subst hw2; rw [hkey] at he; subst he)
        go_ret
        exact ⟨ret_bool (by rw [HF.out]), HB.out⟩
      | true =>
        go_wp2_with (go_at_call 42; refine (l6Key_any y _ HYF.out).mono ?_; rintro e w' ⟨he, hw⟩; have hw2 := hw.symm; clear hw; subst hw2; rw [hkey] at he; subst he)
        obtain ⟨w1, hw1⟩ : ∃ w1, w1 = wr := ⟨_, rfl⟩
        subst hw1
        go_loopw [4] (fun j wr => ∃ (i : Nat), i ≤ k ∧ j = .int .i64 i ∧ (∀ q : Nat, q < i → ks[q]? ≠ some y) ∧ Below w.heap.size w wr ∧ w.heap.size < wr.heap.size ∧ wr.cell? ⟨w.heap.size, 0, none⟩ = some (.slice (some ⟨b, off, none⟩) ks.length cap) ∧ wr.cell? ⟨w.heap.size, 1, none⟩ = some (.slice a' ns.length cap')) (fun j _ => k - (intOf j).toNat)
        case atStart => exact ⟨0, Nat.zero_le _, rfl, fun q hq => absurd hq (by omega), HB.out, hlt0, s0, s1⟩
        case round =>
          clear s0 s1 c0 hlt0
          obtain ⟨i, hi, rfl, hno, hb2, hlt2, s0, s1⟩ := hrel
          have HB2 : Hid (Below w.heap.size w wr) := hb2
          have HNO : Hid (∀ q : Nat, q < i → ks[q]? ≠ some y) := hno
          clear hb2 hno
          obtain ⟨b3, off3, cap3, y3, hv3, hbl3, hy3, hyf3, c3⟩ := (HA.out.below HB2.out).at (k := k) hlt
          cases hv3
          rw [HY.out] at hy3
          cases hy3
          clear hyf3
          by_cases hik : i < k
          · obtain ⟨b4, off4, cap4, y4, hv4, hbl4, hy4, hyf4, c4⟩ := (HA.out.below HB2.out).at (k := i) (Nat.lt_trans hik hlt)
            cases hv4
            have HY4 : Hid (ks[i]? = some y4) := hy4
            clear hy4 hyf4
            have hil : i < ks.length := Nat.lt_trans hik hlt
            have hil' : (i : Int) < ks.length := by omega
            have hkl' : (k : Int) < ks.length := by omega
            cases hq : (y4.toList == y.toList) with
            | true =>
              have HF : Hid (ringOk (ks, ns) = false) := ringOk_f (not_good_twice HY.out hik (by rw [HY4.out, listInj401 (eq_of_beq hq)]))
              go_wp2_with fail
              go_quiet (fail)
              go_wp2
              go_ret
              exact ⟨ret_bool (by rw [HF.out]), below_drewN70 HB2.out _⟩
            | false =>
              have HNO2 : Hid (∀ q : Nat, q < i + 1 → ks[q]? ≠ some y) := fun q hq2 => by
                by_cases e : q = i
                · subst e; rw [HY4.out]; intro h; injection h with h; rw [h] at hq; simp at hq
                · exact HNO.out q (by omega)
              go_wp2_with fail
              go_quiet (fail)
              go_wp2
              go_roundw
              case rel => exact ⟨i + 1, by omega, by go_num, HNO2.out, below_drewN70 HB2.out _, hlt2, s0, s1⟩
              case measure => simp [intOf]; omega
          · have hie : i = k := by omega
            subst hie
            go_wp2
            go_roundw
            case rel => exact ⟨i + 1, by omega, by go_num, HKT.out.succ HY.out hkey HNO.out, HB2.out, hlt2, s0, s1⟩
            case measure => simp [intOf]; omega
    · have hke : k = ks.length := by omega
      subst hke
      go_wp2_with fail
      obtain ⟨w1, hw1⟩ : ∃ w1, w1 = wr := ⟨_, rfl⟩
      subst hw1
      go_loopw [5] (fun j wr => ∃ (i : Nat), 1 ≤ i ∧ j = .int .i64 i ∧ i ≤ ns.length + 1 ∧ AscBig ns i ∧ Below w.heap.size w wr ∧ w.heap.size < wr.heap.size ∧ wr.cell? ⟨w.heap.size, 0, none⟩ = some (.slice a ks.length cap) ∧ wr.cell? ⟨w.heap.size, 1, none⟩ = some (.slice a' ns.length cap')) (fun j _ => ns.length + 1 - (intOf j).toNat)
      case atStart => exact ⟨1, Nat.le_refl _, rfl, by omega, AscBig.one _, HB.out, hlt0, s0, s1⟩
      case round =>
        clear s0 s1 hlt0
        obtain ⟨i, hi1, rfl, hi, has, hb2, hlt2, s0, s1⟩ := hrel
        have HB2 : Hid (Below w.heap.size w wr) := hb2
        have HAS : Hid (AscBig ns i) := has
        clear hb2 has
        by_cases hil : i < ns.length
        · obtain ⟨i1, hi2⟩ : ∃ i1, i = i1 + 1 := ⟨i - 1, by omega⟩
          obtain ⟨b1, off1, cp1, za, hv1, hbl1, hza, d0⟩ := (HN.out.below HB2.out).at (k := i1) (by omega)
          cases hv1
          obtain ⟨b2, off2, cp2, zb, hv2, hbl2, hzb, d1⟩ := (HN.out.below HB2.out).at (k := i) hil
          cases hv2
          have HZA : Hid (ns[i1]? = some za) := hza
          have HZB : Hid (ns[i]? = some zb) := hzb
          clear hza hzb
          have q1 : IntKind.i64.wrap ((i : Int) - 1) = (i1 : Int) := by rw [show ((i : Int) - 1) = (i1 : Int) by omega]; exact IntWalk.i64_in _ (by omega)
          have q2 : (i1 : Int) < ns.length := by omega
          have q2n : i1 < ns.length := by omega
          have HI1 : Hid (i = i1 + 1) := hi2
          clear hi2
          by_cases hab : za < zb
          · have q3 : ¬ (zb ≤ za) := by omega
            by_cases hbig : zb ≤ 999999
            · have q4 : ¬ (999999 < zb) := by omega
              have HAS2 : Hid (AscBig ns (i + 1)) := HAS.out.succ fun a b ha hb => by rw [show i - 1 = i1 by have := HI1.out; omega, HZA.out] at ha; rw [HZB.out] at hb; cases ha; cases hb; exact ⟨hab, hbig⟩
              go_wp2_with fail
              go_quiet (fail)
              go_wp2
              go_roundw
              case rel => exact ⟨i + 1, by omega, by go_num, by omega, HAS2.out, below_drewN70 HB2.out _, hlt2, s0, s1⟩
              case measure => simp [intOf]; omega
            · have q4 : 999999 < zb := by omega
              have HF : Hid (ringOk (ks, ns) = false) := ringOk_f (not_good_big HZB.out hbig)
              go_wp2_with fail
              go_quiet (fail)
              go_wp2
              go_ret
              exact ⟨ret_bool (by rw [HF.out]), below_drewN70 HB2.out _⟩
          · have q3 : zb ≤ za := by omega
            have HF : Hid (ringOk (ks, ns) = false) := ringOk_f (not_good_asc HZA.out (by rw [← HI1.out]; exact HZB.out) hab)
            go_wp2_with fail
            go_quiet (fail)
            go_wp2
            go_ret
            exact ⟨ret_bool (by rw [HF.out]), below_drewN70 HB2.out _⟩
        · have HAL : Hid (AscBig ns ns.length) := fun p a b hp => HAS.out p a b (by omega)
          cases hin : inI (ks.length : Int) 1 5 with
          | false =>
            have HX : Hid _ := hin
            have HF : Hid (ringOk (ks, ns) = false) := ringOk_f fun g => by have g1 := g.1; have g2 := g.2.1; simp only at g1 g2; unfold inI at hin; simp at hin; have := hin (by omega); omega
            clear hin
            go_wp2_with (go_at_call 43; refine (l1InI_any _ _ _ _).mono ?_; rintro e w' ⟨he, hw⟩; have hw2 := hw.symm; clear hw; subst hw2; rw [HX.out] at he; subst he)
            go_ret
            exact ⟨ret_bool (by rw [HF.out]), HB2.out⟩
          | true =>
            have HX : Hid _ := hin
            have hks : 1 ≤ ks.length ∧ ks.length ≤ 5 := by unfold inI at hin; simp at hin; omega
            clear hin
            by_cases hll : ns.length = ks.length
            · obtain ⟨bn, offn, capn, z0, hvn, hbn, hz0, e0⟩ := (HN.out.below HB2.out).at (k := 0) (by omega)
              cases hvn
              rw [Nat.add_zero] at e0
              have HZ0 : Hid (ns[0]? = some z0) := hz0
              clear hz0
              have HLL : Hid (LenIs ns ks.length) := hll
              have q5 : ((ns.length : Int) == (ks.length : Int)) = true := by simp; omega
              have q6 : (0 : Int) < ns.length := by omega
              have q7 : 0 < ns.length := by omega
              clear hll
              by_cases hz1 : z0 = 1
              · have HF : Hid (ringOk (ks, ns) = true) := ringOk_t (RingGood.of_spec hks.1 hks.2 HLL.out (by rw [← hz1]; exact HZ0.out) HKT.out HAL.out)
                subst hz1
                go_wp2_with (go_at_call 43; refine (l1InI_any _ _ _ _).mono ?_; rintro e w' ⟨he, hw⟩; have hw2 := hw.symm; clear hw; subst hw2; rw [HX.out] at he; subst he)
                go_ret
                exact ⟨ret_bool (by rw [HF.out]), HB2.out⟩
              · have HF : Hid (ringOk (ks, ns) = false) := ringOk_f fun g => by have := g.2.2.2.1; simp only at this; rw [HZ0.out] at this; cases this; exact hz1 rfl
                have q8 : (z0 == 1) = false := by simpa using hz1
                clear hz1
                go_wp2_with (go_at_call 43; refine (l1InI_any _ _ _ _).mono ?_; rintro e w' ⟨he, hw⟩; have hw2 := hw.symm; clear hw; subst hw2; rw [HX.out] at he; subst he)
                go_ret
                exact ⟨ret_bool (by rw [HF.out]), HB2.out⟩
            · have HF : Hid (ringOk (ks, ns) = false) := ringOk_f fun g => by have := g.2.2.1; simp only at this; omega
              have q5 : ((ns.length : Int) == (ks.length : Int)) = false := by simp; omega
              go_wp2_with (go_at_call 43; refine (l1InI_any _ _ _ _).mono ?_; rintro e w' ⟨he, hw⟩; have hw2 := hw.symm; clear hw; subst hw2; rw [HX.out] at he; subst he)
              go_ret
              exact ⟨ret_bool (by rw [HF.out]), HB2.out⟩
end Go.Proofs.YtkepmjebnkcbgaaGreatDoor
/-
  RingKey of both.
-/
namespace Go.Proofs.YtkepmjebnkcbgaaGreatDoor
open Go.RowKit
set_option linter.unusedVariables false
set_option maxHeartbeats 2000000 in
theorem l11Key_any (w : World) (v : Value) (x : RingM) (n : Int) (h : RingAt w v x) (hlen : x.2.length = x.1.length) :
    Calls Tryz.prog 25 #[v, .int .i64 n] w fun e w' => e = .returned (.string (keyOf x.1 x.2 n ⟨#[]⟩)) ∧ Below w.heap.size w w' := by
  obtain ⟨va, vn, rfl, ha, hn⟩ := h
  obtain ⟨ks, ns⟩ := x
  simp only at ha hn hlen
  have hle1 : ns.length ≤ ks.length := by omega
  have hle2 : ks.length ≤ ns.length := by omega
  clear hlen
  obtain ⟨a, cap, rfl, hc, hm⟩ := ha.form
  obtain ⟨a', cap', rfl, hc', hm'⟩ := hn.form
  have HA : Hid (TextsAt w (.slice a ks.length cap) ks) := ha
  have HN : Hid (IntsAt w (.slice a' ns.length cap') ns) := hn
  have HB0 : Hid (Below w.heap.size w (w.alloc (.cells #[.slice a ks.length cap, .slice a' ns.length cap'] 40))) := (Below.refl _ _).alloc (Nat.le_refl _) _
  unfold maxLen at hm hm'
  clear ha hn
  go_enter Tryz.func25, Tryz.ntmps25
  go_wp2_with fail
  go_loopw [5, 6] (fun c i wr => ∃ (k : Nat), k ≤ ks.length ∧ i = .int .i64 k ∧ c = .string (keyOf (ks.take k) (ns.take k) n ⟨#[]⟩) ∧ Below w.heap.size w wr ∧ w.heap.size < wr.heap.size ∧ wr.cell? ⟨w.heap.size, 0, none⟩ = some (.slice a ks.length cap) ∧ wr.cell? ⟨w.heap.size, 1, none⟩ = some (.slice a' ns.length cap')) (fun c i _ => ks.length - (intOf i).toNat)
  case atStart => exact ⟨0, Nat.zero_le _, rfl, rfl, HB0.out, by simp, by simp [go_sem], by simp [go_sem]⟩
  case round =>
    obtain ⟨k, hk, rfl, rfl, hb, hlt0, s0, s1⟩ := hrel
    have HB : Hid (Below w.heap.size w wr) := hb
    clear hb
    by_cases hlt : k < ks.length
    · obtain ⟨b, off, cap1, y, hv, hbl, hy, hyf, c0⟩ := (HA.out.below HB.out).at (k := k) hlt
      cases hv
      obtain ⟨b1, off1, cp1, f, hv1, hbl1, hf, d0⟩ := (HN.out.below HB.out).at (k := k) (by omega)
      cases hv1
      have HK : Hid (keyOf (ks.take (k + 1)) (ns.take (k + 1)) n ⟨#[]⟩ = if f ≤ n then y else keyOf (ks.take k) (ns.take k) n ⟨#[]⟩) := keyOf_take hy hf
      have hln : k < ns.length := by omega
      clear hy hyf hf
      by_cases hfn : f ≤ n
      · have HK2 : Hid (keyOf (ks.take (k + 1)) (ns.take (k + 1)) n ⟨#[]⟩ = y) := by show _ = _; rw [HK.out, if_pos hfn]
        go_wp2
        go_roundw
        case rel => exact ⟨k + 1, by omega, by go_num, by rw [HK2.out], HB.out, hlt0, s0, s1⟩
        case measure => simp [intOf]; omega
      · have HK2 : Hid (keyOf (ks.take (k + 1)) (ns.take (k + 1)) n ⟨#[]⟩ = keyOf (ks.take k) (ns.take k) n ⟨#[]⟩) := by show _ = _; rw [HK.out, if_neg hfn]
        go_wp2
        go_roundw
        case rel => exact ⟨k + 1, by omega, by go_num, by rw [HK2.out], HB.out, hlt0, s0, s1⟩
        case measure => simp [intOf]; omega
    · have hke : k = ks.length := by omega
      subst hke
      have HT : Hid (keyOf (ks.take ks.length) (ns.take ks.length) n ⟨#[]⟩ = keyOf ks ns n ⟨#[]⟩) := by show _ = _; rw [List.take_length, List.take_of_length_le (by omega)]
      go_wp2
      go_ret
      exact ⟨by rw [HT.out]; rfl, HB.out⟩
set_option maxHeartbeats 2000000 in
theorem implRingKey_any (w : World) (v : Value) (x : RingM) (n : Int) (h : RingAt w v x) :
    Calls Tryz.prog 30 #[v, .int .i64 n] w fun e w' => e = .returned (.string (rkT x n)) ∧ Below w.heap.size w w' := by
  obtain ⟨a, l, cap, a', l', cap', rfl⟩ := h.form2
  obtain ⟨ks, ns⟩ := x
  obtain ⟨W, hW⟩ : ∃ W, w.alloc (.cells #[.slice a l cap, .slice a' l' cap'] 40) = W := ⟨_, rfl⟩
  have HB0 : Hid (Below w.heap.size w (w.alloc (.cells #[.slice a l cap, .slice a' l' cap'] 40))) := (Below.refl _ _).alloc (Nat.le_refl _) _
  have HR : Hid (RingAt w (.agg #[.slice a l cap, .slice a' l' cap']) (ks, ns)) := h
  clear h hW
  have HC : Hid (∀ (w : World) (v : Value), RingAt w v (ks, ns) → Calls Tryz.prog 63 #[v] w fun e w' => e = .returned (.bool (ringOk (ks, ns))) ∧ Below w.heap.size w w') := fun w v h => implRingOk_any w v (ks, ns) h
  have HG : Hid (ringOk (ks, ns) = true → (ks, ns).2.length = (ks, ns).1.length) := fun h => (ringOk_good h).2.2.1
  have HT : Hid (rkT (ks, ns) n = if ringOk (ks, ns) then keyOf (ks, ns).1 (ks, ns).2 n ⟨#[]⟩ else ⟨#[]⟩) := rfl
  cases hok : ringOk (ks, ns) with
  | false =>
    have HT2 : Hid (rkT (ks, ns) n = ⟨#[]⟩) := by show _ = _; rw [HT.out, hok]; rfl
    rw [hok] at HC
    clear HT HG hok
    go_enter Tryz.func30, Tryz.ntmps30
    go_wp2_with fail
    refine (HC.out _ _ (HR.out.below HB0.out)).mono ?_
    rintro e w1 ⟨rfl, hb1⟩
    have HB1 : Hid (Below w.heap.size w w1) := HB0.out.trans (hb1.mono HB0.out.size)
    clear hb1
    go_wp2
    go_ret
    exact ⟨by rw [HT2.out]; rfl, HB1.out⟩
  | true =>
    have HT2 : Hid (rkT (ks, ns) n = keyOf (ks, ns).1 (ks, ns).2 n ⟨#[]⟩) := by show _ = _; rw [HT.out, hok]; rfl
    have HL : Hid ((ks, ns).2.length = (ks, ns).1.length) := HG.out hok
    rw [hok] at HC
    clear HT HG hok
    go_enter Tryz.func30, Tryz.ntmps30
    go_wp2_with fail
    refine (HC.out _ _ (HR.out.below HB0.out)).mono ?_
    rintro e w1 ⟨rfl, hb1⟩
    have HB1 : Hid (Below w.heap.size w w1) := HB0.out.trans (hb1.mono HB0.out.size)
    have s0 : w1.cell? ⟨w.heap.size, 0, none⟩ = some (.slice a l cap) := (hb1.cell (p := ⟨w.heap.size, 0, none⟩) (by simp)).trans (by simp [go_sem])
    have s1 : w1.cell? ⟨w.heap.size, 1, none⟩ = some (.slice a' l' cap') := (hb1.cell (p := ⟨w.heap.size, 1, none⟩) (by simp)).trans (by simp [go_sem])
    have hz1 : w.heap.size < w1.heap.size := by have := hb1.size; simp at this; omega
    obtain ⟨va, vn, hvv, ha, hn⟩ := HR.out
    cases hvv
    simp only at ha hn
    obtain ⟨_, _, hva, hc, hm⟩ := ha.form
    cases hva
    obtain ⟨_, _, hvn, hc', hm'⟩ := hn.form
    cases hvn
    have HA : Hid (TextsAt w (.slice a ks.length cap) ks) := ha
    have HN : Hid (IntsAt w (.slice a' ns.length cap') ns) := hn
    have hle1 : ns.length ≤ ks.length := by have h9 : ns.length = ks.length := HL.out; omega
    have hle2 : ks.length ≤ ns.length := by have h9 : ns.length = ks.length := HL.out; omega
    unfold maxLen at hm hm'
    clear ha hn hb1
    go_wp2_with fail
    go_loopw [5, 14] (fun c i wr => ∃ (k : Nat), k ≤ ks.length ∧ i = .int .i64 k ∧ c = .string (keyOf (ks.take k) (ns.take k) n ⟨#[]⟩) ∧ Below w.heap.size w wr ∧ w.heap.size < wr.heap.size ∧ wr.cell? ⟨w.heap.size, 0, none⟩ = some (.slice a ks.length cap) ∧ wr.cell? ⟨w.heap.size, 1, none⟩ = some (.slice a' ns.length cap')) (fun c i _ => ks.length - (intOf i).toNat)
    case atStart => exact ⟨0, Nat.zero_le _, rfl, rfl, HB1.out, hz1, s0, s1⟩
    case round =>
      obtain ⟨k, hk, rfl, rfl, hb, hlt0, s0, s1⟩ := hrel
      have HB : Hid (Below w.heap.size w wr) := hb
      clear hb
      by_cases hlt : k < ks.length
      · obtain ⟨b, off, cap1, y, hv, hbl, hy, hyf, c0⟩ := (HA.out.below HB.out).at (k := k) hlt
        cases hv
        obtain ⟨b1, off1, cp1, f, hv1, hbl1, hf, d0⟩ := (HN.out.below HB.out).at (k := k) (by omega)
        cases hv1
        have HK : Hid (keyOf (ks.take (k + 1)) (ns.take (k + 1)) n ⟨#[]⟩ = if f ≤ n then y else keyOf (ks.take k) (ns.take k) n ⟨#[]⟩) := keyOf_take hy hf
        have hln : k < ns.length := by omega
        clear hy hyf hf
        by_cases hfn : f ≤ n
        · have HK2 : Hid (keyOf (ks.take (k + 1)) (ns.take (k + 1)) n ⟨#[]⟩ = y) := by show _ = _; rw [HK.out, if_pos hfn]
          go_wp2
          go_roundw
          case rel => exact ⟨k + 1, by omega, by go_num, by rw [HK2.out], HB.out, hlt0, s0, s1⟩
          case measure => simp [intOf]; omega
        · have HK2 : Hid (keyOf (ks.take (k + 1)) (ns.take (k + 1)) n ⟨#[]⟩ = keyOf (ks.take k) (ns.take k) n ⟨#[]⟩) := by show _ = _; rw [HK.out, if_neg hfn]
          go_wp2
          go_roundw
          case rel => exact ⟨k + 1, by omega, by go_num, by rw [HK2.out], HB.out, hlt0, s0, s1⟩
          case measure => simp [intOf]; omega
      · have hke : k = ks.length := by omega
        subst hke
        have HT : Hid (keyOf (ks.take ks.length) (ns.take ks.length) n ⟨#[]⟩ = keyOf ks ns n ⟨#[]⟩) := by show _ = _; rw [List.take_length, List.take_of_length_le (by omega)]
        go_wp2
        go_ret
        exact ⟨by rw [HT2.out, HT.out]; rfl, HB.out⟩
end Go.Proofs.YtkepmjebnkcbgaaGreatDoor
