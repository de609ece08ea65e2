/-
  Memory that is one's own, by types, in one form: texts, affixes, entries, books.
-/
import Derived.Test.YtcdgikhkjpneiaaGreatDoorW134
import Derived.Test.YtcdgikhkjpneiaaGreatDoorGW78
import Derived.Test.YtcdgikhkjpneiaaGreatDoorGW112
import Derived.Test.YtcdgikhkjpneiaaGreatDoorW71
import Derived.WalkKit
import Derived.ProofKit
import Derived.OpenShut
import Derived.ShutString
import Derived.ChangeOld
import Derived.Below
import Derived.Deep.RegionHeld3
namespace Go.Proofs.YtcdgikhkjpneiaaGreatDoor
open Go.RowKit
set_option linter.unusedVariables false
/-- Texts so far. -/
def TxTo (k : Nat) (xs : List ByteArray) (f : Nat → Value) : Prop := ∀ (j : Nat) (x : ByteArray), j < k → xs[j]? = some x → f j = .string x
/-- Texts in a row of their own. -/
def TextsRow (lo hi : Nat) (w : World) (v : Value) (xs : List ByteArray) : Prop :=
  RowOwn 9 1 lo hi w v xs.length (TxTo xs.length xs) ∧ ∀ (i : Nat) (x : ByteArray), xs[i]? = some x → x.size ≤ maxLen
theorem TextsRow.at {lo hi : Nat} {w : World} {v : Value} {xs : List ByteArray} (h : TextsRow lo hi w v xs) : TextsAt w v xs := by
  obtain ⟨⟨a, cap, hv, hc, hm, hh⟩, hf⟩ := h
  refine ⟨a, cap, hv, hc, Nat.le_trans hc hm, hf, fun hn => ?_⟩
  obtain ⟨g, m, f, ha, _, _, hle, hr, hx⟩ := hh (fun e => hn (List.length_eq_zero_iff.1 e))
  refine ⟨g, 0, ha, hr.lt, fun i x hi => ?_⟩
  have hlt : i < xs.length := (List.getElem?_eq_some_iff.1 hi).1
  rw [Nat.zero_add]
  exact (hr.cell (by omega)).trans (by rw [hx i x hlt hi])
theorem TextsRow.below {lo hi : Nat} {w w' : World} {v : Value} {xs : List ByteArray} (h : TextsRow lo hi w v xs) (hb : Below w.heap.size w w') : TextsRow lo hi w' v xs := ⟨h.1.below hb, h.2⟩
theorem TextsRow.wr {lo hi l h' : Nat} {w w' : World} {v : Value} {xs : List ByteArray} (h : TextsRow lo hi w v xs) (hw : Wr l h' w w') (hl : h' ≤ lo) : TextsRow lo hi w' v xs := ⟨h.1.wr hw hl, h.2⟩
theorem TextsRow.weak {lo hi lo' hi' : Nat} {w : World} {v : Value} {xs : List ByteArray} (h : TextsRow lo hi w v xs) (h1 : lo' ≤ lo) (h2 : hi ≤ hi') : TextsRow lo' hi' w v xs := ⟨h.1.weak h1 h2, h.2⟩
theorem RowOwn.set {t : TypeId} {size lo hi G : Nat} {w : World} {n n' c : Nat} {C : (Nat → Value) → Prop} (h : RowOwn t size lo hi w (.slice (some ⟨G, 0, none⟩) n c) n' C) {p : Addr} (hp : G ≠ p.block) (u : Value) : RowOwn t size lo hi (w.setCell p u) (.slice (some ⟨G, 0, none⟩) n c) n' C :=
  h.block fun g _ _ hg _ _ => by
    have e : g = G := by simp [Value.ownBlock] at hg; exact hg.symm
    subst e
    exact Below.heap_setCell _ _ _ g hp
theorem TextsRow.set {lo hi G : Nat} {w : World} {n c : Nat} {xs : List ByteArray} (h : TextsRow lo hi w (.slice (some ⟨G, 0, none⟩) n c) xs) {p : Addr} (hp : G ≠ p.block) (u : Value) : TextsRow lo hi (w.setCell p u) (.slice (some ⟨G, 0, none⟩) n c) xs := ⟨h.1.set hp u, h.2⟩
/-- What was made by itself. -/
theorem TextsRow.of_own {lo : Nat} {w : World} {v : Value} {xs : List ByteArray} (h : TextsOwn lo w v xs) : TextsRow lo w.heap.size w v xs := by
  obtain ⟨a, cap, hv, hc, hm, hf, hh⟩ := h
  refine ⟨⟨a, cap, hv, hc, hm, fun hn => ?_⟩, hf⟩
  obtain ⟨g, n, f, ha, hlo, hle, hr, hx⟩ := hh (fun e => hn (by rw [e]; rfl))
  exact ⟨g, n, f, ha, hlo, hr.lt, by omega, hr, fun j x _ hj => hx j x hj⟩
/- Of the types 85 and 80. -/
theorem AffsOwn.weak {lo hi lo' hi' : Nat} {w : World} {v : Value} {xs : List Aff} (h : AffsOwn lo hi w v xs) (h1 : lo' ≤ lo) (h2 : hi ≤ hi') : AffsOwn lo' hi' w v xs := ⟨h.1.weak h1 h2, h.2⟩
theorem EntsOwn.weak {lo hi lo' hi' : Nat} {w : World} {v : Value} {xs : List (ByteArray × ByteArray)} (h : EntsOwn lo hi w v xs) (h1 : lo' ≤ lo) (h2 : hi ≤ hi') : EntsOwn lo' hi' w v xs := ⟨h.1.weak h1 h2, h.2⟩
theorem AffsOwn.set {lo hi G : Nat} {w : World} {n c : Nat} {xs : List Aff} (h : AffsOwn lo hi w (.slice (some ⟨G, 0, none⟩) n c) xs) {p : Addr} (hp : G ≠ p.block) (u : Value) : AffsOwn lo hi (w.setCell p u) (.slice (some ⟨G, 0, none⟩) n c) xs := ⟨h.1.set hp u, h.2⟩
theorem EntsOwn.set {lo hi G : Nat} {w : World} {n c : Nat} {xs : List (ByteArray × ByteArray)} (h : EntsOwn lo hi w (.slice (some ⟨G, 0, none⟩) n c) xs) {p : Addr} (hp : G ≠ p.block) (u : Value) : EntsOwn lo hi (w.setCell p u) (.slice (some ⟨G, 0, none⟩) n c) xs := ⟨h.1.set hp u, h.2⟩
/-- Books. -/
def BookAt (w : World) (v : Value) (x : List Aff × List (ByteArray × ByteArray)) : Prop := ∃ va ve, v = .agg #[va, ve] ∧ AffsAt w va x.1 ∧ EntsAt w ve x.2
def BookOwn (lo hi : Nat) (w : World) (v : Value) (x : List Aff × List (ByteArray × ByteArray)) : Prop := ∃ va ve, v = .agg #[va, ve] ∧ AffsOwn lo hi w va x.1 ∧ EntsOwn lo hi w ve x.2
def BookSm (x : List Aff × List (ByteArray × ByteArray)) : Prop := x.1.length ≤ 1048576 ∧ x.2.length ≤ 1048576
def bookCnt (x : List Aff × List (ByteArray × ByteArray)) : Nat := x.1.length * 5 + x.2.length * 2
def bookMk (k : Nat) (x : List Aff × List (ByteArray × ByteArray)) : List Aff × List (ByteArray × ByteArray) := (marksA k x.1.length, marksE (k + x.1.length * 5) x.2.length)
theorem BookAt.form {w : World} {v : Value} {x : List Aff × List (ByteArray × ByteArray)} (h : BookAt w v x) : ∃ va ve, v = .agg #[va, ve] := by obtain ⟨va, ve, hv, _⟩ := h; exact ⟨va, ve, hv⟩
theorem BookAt.below {w w' : World} {v : Value} {x : List Aff × List (ByteArray × ByteArray)} (h : BookAt w v x) (hb : Below w.heap.size w w') : BookAt w' v x := by
  obtain ⟨va, ve, hv, h1, h2⟩ := h
  exact ⟨va, ve, hv, h1.below hb, h2.below hb⟩
theorem BookOwn.at {lo hi : Nat} {w : World} {v : Value} {x : List Aff × List (ByteArray × ByteArray)} (h : BookOwn lo hi w v x) : BookAt w v x := by
  obtain ⟨va, ve, hv, h1, h2⟩ := h
  exact ⟨va, ve, hv, h1.at, h2.at⟩
theorem BookOwn.below {lo hi : Nat} {w w' : World} {v : Value} {x : List Aff × List (ByteArray × ByteArray)} (h : BookOwn lo hi w v x) (hb : Below w.heap.size w w') : BookOwn lo hi w' v x := by
  obtain ⟨va, ve, hv, h1, h2⟩ := h
  exact ⟨va, ve, hv, h1.below hb, h2.below hb⟩
theorem BookOwn.wr {lo hi l h' : Nat} {w w' : World} {v : Value} {x : List Aff × List (ByteArray × ByteArray)} (h : BookOwn lo hi w v x) (hw : Wr l h' w w') (hl : h' ≤ lo) : BookOwn lo hi w' v x := by
  obtain ⟨va, ve, hv, h1, h2⟩ := h
  exact ⟨va, ve, hv, h1.wr hw hl, h2.wr hw hl⟩
set_option maxHeartbeats 1000000 in
theorem toStringS_own (w : World) (v : Value) (xs : List ByteArray) (h : TextsAt w v xs) (hn : xs.length ≤ 1048576) :
    Calls Tryz.prog 92 #[v] w fun e w' => e = .returned (.slice (some ⟨w.heap.size, 0, none⟩) xs.length xs.length) ∧ TextsRow w.heap.size w'.heap.size w' (.slice (some ⟨w.heap.size, 0, none⟩) xs.length xs.length) xs ∧ Below w.heap.size w w' := by
  have hfit := h.fit
  obtain ⟨a, cap, rfl, hc, hm⟩ := h.form
  have HS : Hid (TextsAt w (.slice a xs.length cap) xs) := h
  have HFI : Hid (∀ (i : Nat) (x : ByteArray), xs[i]? = some x → x.size ≤ maxLen) := hfit
  clear h hfit
  unfold maxLen at hm
  have hmk := run_make_row' (P := Tryz.prog) 27 9 (.string ⟨#[]⟩) 16 Tryz.underlying27 Tryz.info_text rfl .i64 .i64 xs.length (by omega) (by omega)
  have HF : Hid ((w.alloc (.cells (madeCells #[.string ⟨#[]⟩] xs.length) 9)).rowIs w.heap.size 9 xs.length (fun _ => .string ⟨#[]⟩)) := World.rowIs_made w (.string ⟨#[]⟩) xs.length 9
  go_enter Tryz.func92, Tryz.ntmps92
  go_wp2
  go_loopw [4] (fun i wr => ∃ (k : Nat) (f : Nat → Value), k ≤ xs.length ∧ i = .int .i64 k ∧ wr.rowIs w.heap.size 9 xs.length f ∧ (∀ (j : Nat) (x : ByteArray), j < k → xs[j]? = some x → f j = .string x) ∧ Below w.heap.size w wr) (fun i _ => xs.length - (intOf i).toNat)
  case atStart => exact ⟨0, _, Nat.zero_le _, rfl, HF.out, fun j s hj => absurd hj (by omega), (Below.refl _ _).alloc (Nat.le_refl _) _⟩
  case round =>
    obtain ⟨k, f, hk, rfl, hrow, hall, hb⟩ := hrel
    have HA : Hid (∀ (j : Nat) (x : ByteArray), j < k → xs[j]? = some x → f j = .string x) := hall
    have HB : Hid (Below w.heap.size w wr) := hb
    have HW : Hid (wr.rowIs w.heap.size 9 xs.length f) := hrow
    clear hall hb hrow
    by_cases hlt : k < xs.length
    · obtain ⟨b, off, cap', x, hv, hbl, hx, hxf, e0⟩ := (HS.out.below HB.out).at hlt
      cases hv
      have HX : Hid (xs[k]? = some x) := hx
      have d0 := HW.out.cell (i := k) hlt
      have g0 := HW.out.frozen k
      clear hx hxf
      go_wp2
      go_roundw
      case rel =>
        refine ⟨k + 1, _, by omega, by go_num, HW.out.set k _, fun j y hj hy => ?_, HB.out.setCell (Nat.le_refl _) _⟩
        by_cases e : j = k
        · subst e
          rw [HX.out] at hy
          cases hy
          simp
        · simp only [e, if_false]
          exact HA.out j y (by omega) hy
      case measure => simp [intOf]; omega
    · obtain rfl : k = xs.length := by omega
      go_wp2
      go_ret
      exact ⟨rfl, ⟨⟨_, _, rfl, Nat.le_refl _, by unfold maxLen; omega, fun _ => ⟨w.heap.size, _, f, rfl, Nat.le_refl _, HW.out.lt, by omega, HW.out, HA.out⟩⟩, HFI.out⟩, HB.out⟩
set_option maxHeartbeats 1000000 in
theorem szBook_r (w : World) (va ve : Value) (xs : List Aff) (es : List (ByteArray × ByteArray)) (left : Int) (ha : AffsAt w va xs) (he : EntsAt w ve es) (h0 : 0 ≤ left) (h1 : left ≤ 1048576) :
    Calls Tryz.prog 5 #[.agg #[va, ve], .int .i64 left] w fun e w' => (∃ r : Int, e = .returned (.int .i64 r) ∧ r ≤ left ∧ (0 ≤ r → xs.length ≤ 1048576 ∧ es.length ≤ 1048576)) ∧ Below w.heap.size w w' := by
  obtain ⟨a, cap, rfl, hc, hm⟩ := ha.form
  obtain ⟨a', cap', rfl, hc', hm'⟩ := he.form
  have HA : Hid (AffsAt w (.slice a xs.length cap) xs) := ha
  have HE : Hid (EntsAt w (.slice a' es.length cap') es) := he
  clear ha he
  go_enter Tryz.func5, Tryz.ntmps5
  go_wp2_with fail
  refine (szAffixS_any _ _ xs _ (HA.out.below ((Below.refl _ _).alloc (Nat.le_refl _) _)) (by omega) (by omega)).mono ?_
  rintro e w1 ⟨⟨r, rfl, hr1, hr2⟩, hb1⟩
  have HB1 : Hid (Below w.heap.size w w1) := Below.trans ((Below.refl _ _).alloc (Nat.le_refl _) _) (hb1.mono (by simp <;> omega))
  have HR : Hid (0 ≤ r → xs.length ≤ 1048576) := hr2
  have hcl : w1.cell? ⟨w.heap.size, 1, none⟩ = some (.slice a' es.length cap') := (hb1.cell (p := ⟨w.heap.size, 1, none⟩) (by simp)).trans (by simp [go_sem])
  have hz : w.heap.size < w1.heap.size := by have := hb1.size; simp at this; omega
  clear hb1 hr2
  by_cases hr : r < 0
  · go_wp2
    go_ret
    exact ⟨⟨-1, rfl, by omega, by omega⟩, HB1.out⟩
  · go_wp2_with fail
    refine (szEntryS_any _ _ es _ (HE.out.below HB1.out) (by omega) (by omega)).mono ?_
    rintro e w2 ⟨⟨q, rfl, hq1, hq2⟩, hb2⟩
    have HB2 : Hid (Below w.heap.size w w2) := HB1.out.trans (hb2.mono HB1.out.size)
    have HQ : Hid (0 ≤ q → es.length ≤ 1048576) := hq2
    clear hb2 hq2 hcl
    by_cases hq : q < 0
    · go_wp2
      go_ret
      exact ⟨⟨-1, rfl, by omega, by omega⟩, HB2.out⟩
    · go_wp2
      go_ret
      exact ⟨⟨q, rfl, by omega, fun _ => ⟨HR.out (by omega), HQ.out (by omega)⟩⟩, HB2.out⟩
set_option maxHeartbeats 1000000 in
theorem toBook_own (w : World) (va ve : Value) (xs : List Aff) (es : List (ByteArray × ByteArray)) (ha : AffsAt w va xs) (he : EntsAt w ve es) (hn : xs.length ≤ 1048576) (hn' : es.length ≤ 1048576) :
    Calls Tryz.prog 7 #[.agg #[va, ve]] w fun e w' => ∃ va' ve', e = .returned (.agg #[va', ve']) ∧ AffsOwn w.heap.size w'.heap.size w' va' xs ∧ EntsOwn w.heap.size w'.heap.size w' ve' es ∧ Below w.heap.size w w' := by
  obtain ⟨a, cap, rfl, hc, hm⟩ := ha.form
  obtain ⟨a', cap', rfl, hc', hm'⟩ := he.form
  have HA : Hid (AffsAt w (.slice a xs.length cap) xs) := ha
  have HE : Hid (EntsAt w (.slice a' es.length cap') es) := he
  clear ha he
  go_enter Tryz.func7, Tryz.ntmps7
  go_wp2_with fail
  refine (toAffixS_own _ _ xs (HA.out.below ?b1) hn).mono ?_
  case b1 => exact (((Below.refl _ _).alloc (Nat.le_refl _) _).alloc (by simp) _).alloc (by simp <;> omega) _
  rintro e w1 ⟨rfl, hA1, hb1⟩
  have HB1 : Hid (Below w.heap.size w w1) := Below.trans ((((Below.refl _ _).alloc (Nat.le_refl _) _).alloc (by simp) _).alloc (by simp <;> omega) _) (hb1.mono (by simp <;> omega))
  obtain ⟨hcl, hfz⟩ := bcell7 hb1
  have hz := hb1.size
  simp only [World.size_alloc] at hA1
  have HA1 : Hid (AffsOwn (w.heap.size + 1 + 1 + 1) w1.heap.size w1 (.slice (some ⟨w.heap.size + 1 + 1 + 1, 0, none⟩) xs.length xs.length) xs) := hA1
  simp at hz
  clear hb1 hA1
  go_wp2_with fail
  refine (toEntryS_own _ _ es (HE.out.below (HB1.out.setCell (by simp <;> omega) _)) hn').mono ?_
  rintro e w3 ⟨rfl, hE3, hb3⟩
  have HB3 : Hid (Below w.heap.size w w3) := (HB1.out.setCell (by simp <;> omega) _).trans (hb3.mono (by rw [Go.Deep.nblk_setCell]; omega))
  obtain ⟨hcl3, hfz3⟩ := bcell7 hb3
  have hz3 := hb3.size
  rw [Go.Deep.nblk_setCell] at hz3
  have HA3 : Hid (AffsOwn w.heap.size w3.heap.size w3 (.slice (some ⟨w.heap.size + 1 + 1 + 1, 0, none⟩) xs.length xs.length) xs) := ((HA1.out.weak (by omega) (by omega)).set (p := ⟨w.heap.size + 1 + 1, 0, none⟩) (by simp) _).below hb3
  rw [Go.Deep.nblk_setCell] at hE3 ⊢
  have HE3 : Hid (EntsOwn w.heap.size w3.heap.size w3 (.slice (some ⟨w1.heap.size, 0, none⟩) es.length es.length) es) := hE3.weak (by omega) (Nat.le_refl _)
  simp only [Go.Deep.nblk_setCell] at hcl3 hfz3
  have l1 : w.heap.size + 1 < w1.heap.size := by omega
  have l2 : w.heap.size + 1 + 1 < w1.heap.size := by omega
  have q10 : w3.cell? ⟨w.heap.size + 1, 0, none⟩ = some (.slice none 0 0) := by rw [hcl3 _ _ l1, World.cell?_setCell_other _ _ _ _ (by simp), hcl _ _ (by simp)]; simp [go_sem]
  have q11 : w3.cell? ⟨w.heap.size + 1, 1, none⟩ = some (.slice none 0 0) := by rw [hcl3 _ _ l1, World.cell?_setCell_other _ _ _ _ (by simp), hcl _ _ (by simp)]; simp [go_sem]
  have q20 : w3.cell? ⟨w.heap.size + 1 + 1, 0, none⟩ = some (.slice (some ⟨w.heap.size + 1 + 1 + 1, 0, none⟩) xs.length xs.length) := by rw [hcl3 _ _ l2]; exact World.cell?_setCell_same' _ _ _ (by rw [hcl _ _ (by simp)]; simp [go_sem])
  have q21 : w3.cell? ⟨w.heap.size + 1 + 1, 1, none⟩ = some (.slice none 0 0) := by rw [hcl3 _ _ l2, World.cell?_setCell_other _ _ _ _ (by simp), hcl _ _ (by simp)]; simp [go_sem]
  have z10 : w3.frozen? ⟨w.heap.size + 1, 0, none⟩ = false := by rw [hfz3 _ _ l1, World.frozen?_setCell, hfz _ _ (by simp)]; simp [go_sem]
  have z11 : w3.frozen? ⟨w.heap.size + 1, 1, none⟩ = false := by rw [hfz3 _ _ l1, World.frozen?_setCell, hfz _ _ (by simp)]; simp [go_sem]
  have z21 : w3.frozen? ⟨w.heap.size + 1 + 1, 1, none⟩ = false := by rw [hfz3 _ _ l2, World.frozen?_setCell, hfz _ _ (by simp)]; simp [go_sem]
  clear hb3 hE3 hcl hfz hcl3 hfz3
  go_wp2
  refine bodyPost_ret (v := .agg #[.slice (some ⟨w.heap.size + 1 + 1 + 1, 0, none⟩) xs.length xs.length, .slice (some ⟨w1.heap.size, 0, none⟩) es.length es.length]) (by simp [results, Tryz.results7, go_sem, q10, q11, World.cell?_setCell_same', World.cell?_setCell_other]) rfl ⟨_, _, rfl, ?_, ?_, ?_⟩
  · simp only [Go.Deep.nblk_setCell]
    exact ((HA3.out.set (by simp <;> omega) _).set (by simp <;> omega) _).set (by simp <;> omega) _
  · simp only [Go.Deep.nblk_setCell]
    exact ((HE3.out.set (by simp <;> omega) _).set (by simp <;> omega) _).set (by simp <;> omega) _
  · exact ((HB3.out.setCell (by simp <;> omega) _).setCell (by simp <;> omega) _).setCell (by simp <;> omega) _
theorem szBook_u (w : World) (v : Value) (x : List Aff × List (ByteArray × ByteArray)) (left : Int) (h : BookAt w v x) (h0 : 0 ≤ left) (h1 : left ≤ 1048576) :
    Calls Tryz.prog 5 #[v, .int .i64 left] w fun e w' => (∃ r : Int, e = .returned (.int .i64 r) ∧ r ≤ left ∧ (0 ≤ r → BookSm x)) ∧ Below w.heap.size w w' := by
  obtain ⟨va, ve, rfl, ha, he⟩ := h
  exact szBook_r w va ve x.1 x.2 left ha he h0 h1
theorem toBook_u (w : World) (v : Value) (x : List Aff × List (ByteArray × ByteArray)) (h : BookAt w v x) (hs : BookSm x) :
    Calls Tryz.prog 7 #[v] w fun e w' => ∃ v', e = .returned v' ∧ BookOwn w.heap.size w'.heap.size w' v' x ∧ Below w.heap.size w w' := by
  obtain ⟨va, ve, rfl, ha, he⟩ := h
  refine (toBook_own w va ve x.1 x.2 ha he hs.1 hs.2).mono ?_
  rintro e w' ⟨va', ve', rfl, h1, h2, hb⟩
  exact ⟨_, rfl, ⟨va', ve', rfl, h1, h2⟩, hb⟩
theorem eqBook_u (w : World) (v u : Value) (x : List Aff × List (ByteArray × ByteArray)) (h : BookAt w v x) (h' : BookAt w u x) :
    Calls Tryz.prog 10 #[v, u] w fun e w' => e = .returned (.bool true) ∧ Below w.heap.size w w' := by
  obtain ⟨va, ve, rfl, ha, he⟩ := h
  obtain ⟨va', ve', rfl, ha', he'⟩ := h'
  exact eqBook_same w va ve va' ve' x.1 x.2 ha he ha' he'
set_option maxHeartbeats 1000000 in
theorem markBook_u (lo hi k : Nat) (w : World) (v : Value) (x : List Aff × List (ByteArray × ByteArray)) (h : BookOwn lo hi w v x) (hs : BookSm x) (hk : k ≤ 10000000000) (hlo : hi ≤ w.heap.size) (hlh : lo ≤ hi) :
    Calls Tryz.prog 11 #[v, .int .i64 k] w fun e w' => e = .returned (.int .i64 ((k + bookCnt x : Nat) : Int)) ∧ BookOwn lo hi w' v (bookMk k x) ∧ Wr lo hi w w' := by
  obtain ⟨va, ve, rfl, ha, he⟩ := h
  obtain ⟨xs, es⟩ := x
  simp only [bookCnt, bookMk, BookSm] at *
  have HA : Hid (AffsOwn lo hi w va xs) := ha
  have HE : Hid (EntsOwn lo hi w ve es) := he
  obtain ⟨hs1, hs2⟩ := hs
  have hlo2 : lo ≤ w.heap.size := by omega
  clear ha he
  have HB0 : Hid (Below w.heap.size w (w.alloc (.cells #[va, ve] 37))) := (Below.refl _ _).alloc (Nat.le_refl _) _
  go_enter Tryz.func11, Tryz.ntmps11
  go_wp2_with fail
  refine (markAffixS_any lo hi k _ va xs.length _ (HA.out.below HB0.out).1 (by omega) (by omega) (by simp; omega)).mono ?_
  rintro e w1 ⟨rfl, hA1, hw1, hg1⟩
  have HW1 : Hid (Wr lo hi w w1) := (Wr.of_below HB0.out hlo2).trans hw1
  have HA1 : Hid (AffsOwn lo hi w1 va (marksA k xs.length)) := hA1
  have HE1 : Hid (EntsOwn lo hi w1 ve es) := ⟨(HE.out.below HB0.out).1.apart (HA.out.below HB0.out).1 (by decide) hg1, HE.out.2⟩
  have c1 : w1.cell? ⟨w.heap.size, 1, none⟩ = some ve := by
    have hblk : w1.heap[w.heap.size]? = (w.alloc (.cells #[va, ve] 37)).heap[w.heap.size]? := hw1.2.2.1 _ (by omega) (by simp)
    rw [cell_of_row _ _ 1 _ _ _ (hblk.trans (heap_alloc_last _ _))]
    rfl
  have hz1 : w.heap.size < w1.heap.size := by have := hw1.sz; simp at this; omega
  clear hA1 hw1 hg1
  go_wp2_with fail
  refine (markEntryS_any lo hi (k + xs.length * 5) _ ve es.length _ HE1.out.1 (by omega) (by omega) (by omega)).mono ?_
  rintro e w2 ⟨rfl, hE2, hw2, hg2⟩
  have HW2 : Hid (Wr lo hi w w2) := HW1.out.trans hw2
  have HA2 : Hid (AffsOwn lo hi w2 va (marksA k xs.length)) := ⟨HA1.out.1.apart HE1.out.1 (by decide) hg2, HA1.out.2⟩
  have HE2 : Hid (EntsOwn lo hi w2 ve (marksE (k + xs.length * 5) es.length)) := hE2
  clear hE2 hw2 hg2
  go_wp2
  go_ret
  exact ⟨by push_cast; rw [Int.add_assoc]; rfl, ⟨va, ve, rfl, HA2.out, HE2.out⟩, HW2.out⟩
end Go.Proofs.YtcdgikhkjpneiaaGreatDoor
/-
  Contracts of copies, marks and what holds them, in one form.
-/
namespace Go.Proofs.YtcdgikhkjpneiaaGreatDoor
open Go.RowKit
set_option linter.unusedVariables false
theorem toAffixS_x (w : World) (v : Value) (x : List Aff) (h : AffsAt w v x) (hs : x.length ≤ 1048576) :
    Calls Tryz.prog 29 #[v] w fun e w' => ∃ v', e = .returned v' ∧ AffsOwn w.heap.size w'.heap.size w' v' x ∧ Below w.heap.size w w' :=
  (toAffixS_own w v x h hs).mono fun e w' ⟨h1, h2, h3⟩ => ⟨_, h1, h2, h3⟩
theorem markAffixS_x (lo hi k : Nat) (w : World) (v : Value) (x : List Aff) (h : AffsOwn lo hi w v x) (hs : x.length ≤ 1048576) (hk : k ≤ 10000000000) (hlo : hi ≤ w.heap.size) (hlh : lo ≤ hi) :
    Calls Tryz.prog 42 #[v, .int .i64 k] w fun e w' => e = .returned (.int .i64 ((k + x.length * 5 : Nat) : Int)) ∧ AffsOwn lo hi w' v (marksA k x.length) ∧ Wr lo hi w w' :=
  (markAffixS_any lo hi k w v x.length _ h.1 (by omega) (by omega) (by omega)).mono fun e w' ⟨h1, h2, h3, _⟩ => ⟨h1, h2, h3⟩
theorem toEntryS_x (w : World) (v : Value) (x : List (ByteArray × ByteArray)) (h : EntsAt w v x) (hs : x.length ≤ 1048576) :
    Calls Tryz.prog 30 #[v] w fun e w' => ∃ v', e = .returned v' ∧ EntsOwn w.heap.size w'.heap.size w' v' x ∧ Below w.heap.size w w' :=
  (toEntryS_own w v x h hs).mono fun e w' ⟨h1, h2, h3⟩ => ⟨_, h1, h2, h3⟩
theorem toStringS_x (w : World) (v : Value) (x : List ByteArray) (h : TextsAt w v x) (hs : x.length ≤ 1048576) :
    Calls Tryz.prog 92 #[v] w fun e w' => ∃ v', e = .returned v' ∧ TextsRow w.heap.size w'.heap.size w' v' x ∧ Below w.heap.size w w' :=
  (toStringS_own w v x h hs).mono fun e w' ⟨h1, h2, h3⟩ => ⟨_, h1, h2, h3⟩
set_option maxHeartbeats 1000000 in
theorem markStringS_r (lo hi k : Nat) (w : World) (v : Value) (n : Nat) (C : (Nat → Value) → Prop) (h : RowOwn 9 1 lo hi w v n C) (hn : n ≤ 2000000000) (hk : k ≤ 100000000000) (hlo : lo ≤ w.heap.size) :
    Calls Tryz.prog 87 #[v, .int .i64 k] w fun e w' => e = .returned (.int .i64 ((k + n : Nat) : Int)) ∧ TextsRow lo hi w' v (marks k n) ∧ Wr lo hi w w' ∧ w.grownBy w' (rowOf v n) := by
  obtain ⟨a, cap, rfl, hc, hm, hh⟩ := h
  have HC : Hid (cap ≤ maxLen) := hm
  have HMF : Hid (∀ (i : Nat) (x : ByteArray), (marks k n)[i]? = some x → x.size ≤ maxLen) := fun i x hx => by
    have hi : i < n := by have := (List.getElem?_eq_some_iff.1 hx).1; rwa [marks_length] at this
    rw [marks_at hi] at hx
    cases hx
    exact markT_fit _
  unfold maxLen at hm
  by_cases h0 : n = 0
  · subst h0
    clear hh
    have HR : Hid (TextsRow lo hi w (.slice a 0 cap) (marks k 0)) := ⟨⟨a, cap, rfl, hc, HC.out, fun hh => absurd rfl hh⟩, HMF.out⟩
    go_enter Tryz.func87, Tryz.ntmps87
    go_wp2
    go_loopw [1, 5] (fun kv i wr => kv = .int .i64 k ∧ i = .int .i64 0 ∧ wr = w) (fun _ i _ => 0)
    case atStart => exact ⟨rfl, rfl, rfl⟩
    case round =>
      obtain ⟨rfl, rfl, rfl⟩ := hrel
      go_wp2
      go_ret
      exact ⟨by simp, HR.out, Wr.refl _ _ _, grown_refl _ _⟩
  · obtain ⟨g, m, f0, rfl, hg, hgh, hle, hr, _⟩ := hh h0
    have HR : Hid (w.rowIs g 9 m f0) := hr
    clear hr hh
    go_enter Tryz.func87, Tryz.ntmps87
    go_wp2
    go_loopw [1, 5] (fun kv i wr => ∃ (j : Nat) (f : Nat → Value), j ≤ n ∧ kv = .int .i64 (k + j) ∧ i = .int .i64 j ∧ wr.rowIs g 9 m f ∧ TxTo j (marks k n) f ∧ Wr lo hi w wr ∧ w.grownBy wr (some g)) (fun _ i _ => n - (intOf i).toNat)
    case atStart => exact ⟨0, f0, Nat.zero_le _, by simp, rfl, HR.out, fun j x hj => absurd hj (by omega), Wr.refl _ _ _, grown_refl _ _⟩
    case round =>
      obtain ⟨j, f, hj, rfl, rfl, hr, ha, hw, hb⟩ := hrel
      have HB : Hid (w.grownBy wr (some g)) := hb
      have HW : Hid (wr.rowIs g 9 m f) := hr
      have HA : Hid (TxTo j (marks k n) f) := ha
      have HR2 : Hid (Wr lo hi w wr) := hw
      have hlr : lo ≤ wr.heap.size := Nat.le_trans hlo hw.sz
      clear hb hr ha hw
      by_cases hlt : j < n
      · have HX : Hid ((marks k n)[j]? = some (markT (k + j))) := marks_at hlt
        have hm1 := markT_size (k + j)
        go_wp2_with fail
        refine (markText_int _ (k + j) (by push_cast; omega) (by omega) _).mono ?_
        rintro e w1 ⟨rfl, hb1⟩
        have HW1 : Hid (w1.rowIs g 9 m f) := HW.out.of_block (hb1.block g HW.out.lt)
        have HR3 : Hid (Wr lo hi w w1) := HR2.out.trans (Wr.of_below hb1 hlr)
        have HB1 : Hid (w.grownBy w1 (some g)) := grown_trans HB.out (grown_of_below _ hb1)
        have d0 := HW1.out.cell (i := j) (by omega)
        have g0 := HW1.out.frozen j
        clear hb1
        go_wp2
        go_roundw
        case rel =>
          refine ⟨j + 1, _, by omega, by go_num, by go_num, HW1.out.set j _, fun i x hi hx => ?_, HR3.out.trans (Wr.set w1 (p := ⟨g, j, none⟩) hg hgh rfl _), grown_trans HB1.out (grown_set _ _ _ _)⟩
          by_cases e : i = j
          · subst e
            rw [HX.out] at hx
            cases hx
            exact if_pos rfl
          · show (if i = j then _ else f i) = _
            rw [if_neg e]
            exact HA.out i x (by omega) hx
        case measure => simp [intOf]; omega
      · have hje : j = n := by omega
        subst hje
        go_wp2
        go_ret
        refine ⟨by push_cast; rfl, ⟨⟨_, cap, by rw [marks_length], by rw [marks_length]; exact hc, HC.out, fun _ => ⟨g, m, f, rfl, hg, hgh, by rw [marks_length]; exact hle, HW.out, by rw [marks_length]; exact HA.out⟩⟩, HMF.out⟩, HR2.out, by rw [rowOf_pos h0]; exact HB.out⟩
theorem markStringS_x (lo hi k : Nat) (w : World) (v : Value) (x : List ByteArray) (h : TextsRow lo hi w v x) (hs : x.length ≤ 1048576) (hk : k ≤ 10000000000) (hlo : hi ≤ w.heap.size) (hlh : lo ≤ hi) :
    Calls Tryz.prog 87 #[v, .int .i64 k] w fun e w' => e = .returned (.int .i64 ((k + x.length : Nat) : Int)) ∧ TextsRow lo hi w' v (marks k x.length) ∧ Wr lo hi w w' :=
  (markStringS_r lo hi k w v x.length _ h.1 (by omega) (by omega) (by omega)).mono fun e w' ⟨h1, h2, h3, _⟩ => ⟨h1, h2, h3⟩
theorem heldStringS_x (w : World) (v : Value) (k : Nat) (x : List ByteArray) (h : TextsAt w v (marks k x.length)) (hs : x.length ≤ 1048576) (hk : k ≤ 1000000000) :
    Calls Tryz.prog 88 #[v, .int .i64 k] w fun e w' => e = .returned (.int .i64 ((k + x.length : Nat) : Int)) ∧ Below w.heap.size w w' := by
  refine (heldStringS_any k x.length w v h (by omega) (by omega)).mono ?_
  rintro e w' ⟨rfl, hb⟩
  exact ⟨by push_cast; rfl, hb⟩
end Go.Proofs.YtcdgikhkjpneiaaGreatDoor
/-
  Small words for the walks of exact laws.
-/
namespace Go.Proofs.YtcdgikhkjpneiaaGreatDoor
open Go.RowKit
set_option linter.unusedVariables false
/-- A number that is called by a letter. -/
theorem cK {P : Program} {f : FuncId} {args : Array Value} {w : World} {n K : Nat} {Q : World → Prop} (h : Calls P f args w fun e w' => e = .returned (.int .i64 (n : Int)) ∧ Q w') (hn : n = K) : Calls P f args w fun e w' => e = .returned (.int .i64 (K : Int)) ∧ Q w' := by
  subst hn
  exact h
theorem wr_cell {lo hi : Nat} {w w' : World} (h : Wr lo hi w w') {b : Nat} (i : Nat) (hp : b < lo ∨ hi ≤ b) (hlt : b < w.heap.size) : w'.cell? ⟨b, i, none⟩ = w.cell? ⟨b, i, none⟩ := by
  refine World.cell?_of_block (a := ⟨b, i, none⟩) ?_
  rcases hp with hp | hp
  · exact h.1.block b hp
  · exact h.2.2.1 b hp hlt
/- Of the type 37. -/
theorem BookAt.form2 {w : World} {v : Value} {x : List Aff × List (ByteArray × ByteArray)} (h : BookAt w v x) : ∃ a n c a' n' c', v = .agg #[.slice a n c, .slice a' n' c'] := by
  obtain ⟨va, ve, rfl, h1, h2⟩ := h
  obtain ⟨a, c, rfl, _⟩ := h1.form
  obtain ⟨a', c', rfl, _⟩ := h2.form
  exact ⟨_, _, _, _, _, _, rfl⟩
end Go.Proofs.YtcdgikhkjpneiaaGreatDoor
/-
  Arguments of laws, opened: slices of affixes, of texts; an entry.
-/
namespace Go.Proofs.YtcdgikhkjpneiaaGreatDoor
open Go.ChangeShapes Go.WideShapes Go.ChangeAt Go.RowKit
set_option linter.unusedVariables false
set_option maxRecDepth 100000 in
theorem open_affsV {H : Type} {enc : TypeId × Value → H} {w : World} {r : Reach} {b0 base : Nat} {spare : Nat → Bool} {held : Bool} {v : Value} {d : DataW H} {p : List MemPlace}
    (hv : Value.okWide Tryz.prog w r b0 22 v) (h : DataW.Trod enc Tryz.prog w base spare held 22 v d p) : ∃ xs, AffsAt w v xs := by
  obtain ⟨a0, len0, cap0, rfl⟩ := okWide_slice Tryz.underlying22 hv
  obtain ⟨fuel, hf⟩ := h
  exact open_affs (by simpa [Value.cells] using hf)
set_option maxRecDepth 100000 in
theorem open_textsV {H : Type} {enc : TypeId × Value → H} {w : World} {r : Reach} {b0 base : Nat} {spare : Nat → Bool} {held : Bool} {v : Value} {d : DataW H} {p : List MemPlace}
    (hv : Value.okWide Tryz.prog w r b0 27 v) (h : DataW.Trod enc Tryz.prog w base spare held 27 v d p) : ∃ xs, TextsAt w v xs := by
  obtain ⟨a0, len0, cap0, rfl⟩ := okWide_slice Tryz.underlying27 hv
  obtain ⟨fuel, hf⟩ := h
  exact open_texts (by simpa [Value.cells] using hf)
set_option maxRecDepth 100000 in
theorem open_entryV {H : Type} {enc : TypeId × Value → H} {w : World} {r : Reach} {b0 base : Nat} {spare : Nat → Bool} {held : Bool} {v : Value} {d : DataW H} {p : List MemPlace}
    (hv : Value.okWide Tryz.prog w r b0 78 v) (h : DataW.Trod enc Tryz.prog w base spare held 78 v d p) :
    ∃ st fl, v = .agg #[.string st, .string fl] ∧ st.size ≤ maxLen ∧ fl.size ≤ maxLen := by
  obtain ⟨cs, rfl, hsz⟩ := okWide_struct Tryz.underlying78 hv
  obtain ⟨c0, c1, rfl⟩ : ∃ va ve, cs = #[va, ve] := by
    have h2 : cs.size = 2 := hsz.trans (by kernel_rfl)
    obtain ⟨l⟩ := cs
    match l, h2 with
    | [x, y], _ => exact ⟨x, y, rfl⟩
  obtain ⟨fuel, hf⟩ := h
  obtain ⟨xs, n, rfl, hx, hl, hn, hall⟩ := DataW.trod_struct Tryz.underlying78 hf
  have k0 := hall 0 _ rfl
  have k1 := hall 1 _ rfl
  have o9 : Tryz.prog.cellsOf 9 = 1 := by kernel_rfl
  match xs, hn with
  | [y0, y1], _ =>
    simp [Value.cells, o9] at k0 k1
    obtain ⟨s0, e0, -, l0⟩ := DataW.trod_string Tryz.underlying9 k0
    obtain ⟨s1, e1, -, l1⟩ := DataW.trod_string Tryz.underlying9 k1
    simp only [List.cons.injEq, and_true] at e0 e1
    subst e0; subst e1
    exact ⟨s0, s1, rfl, l0, l1⟩
end Go.Proofs.YtcdgikhkjpneiaaGreatDoor
/-
  Entries and affixes held against their marks; changes in one form.
-/
namespace Go.Proofs.YtcdgikhkjpneiaaGreatDoor
open Go.RowKit
set_option linter.unusedVariables false
theorem box_cell {w w1 : World} {lo hi : Nat} {cs : Array Value} {t : TypeId} (hw : Wr lo hi (w.alloc (.cells cs t)) w1) (hlo : hi ≤ w.heap.size) (i : Nat) : w1.cell? ⟨w.heap.size, i, none⟩ = cs[i]? := by
  have hblk : w1.heap[w.heap.size]? = (w.alloc (.cells cs t)).heap[w.heap.size]? := hw.2.2.1 _ hlo (by simp)
  rw [cell_of_row _ _ i _ _ _ (hblk.trans (heap_alloc_last _ _))]
set_option maxHeartbeats 2000000 in
theorem heldEntryS_x (w : World) (v : Value) (k : Nat) (x : List (ByteArray × ByteArray)) (h : EntsAt w v (marksE k x.length)) (hs : x.length ≤ 1048576) (hk : k ≤ 1000000000) :
    Calls Tryz.prog 89 #[v, .int .i64 k] w fun e w' => e = .returned (.int .i64 ((k + x.length * 2 : Nat) : Int)) ∧ Below w.heap.size w w' := by
  obtain ⟨a, cap, rfl, hc, hm⟩ := h.form
  rw [marksE_length] at hc h ⊢
  generalize hn : x.length = n at *
  clear hn
  have HS : Hid (EntsAt w (.slice a n cap) (marksE k n)) := h
  clear h
  unfold maxLen at hm
  go_enter Tryz.func89, Tryz.ntmps89
  go_wp2
  go_loopw [1, 5] (fun kv i wr => ∃ (j : Nat), j ≤ n ∧ kv = .int .i64 (k + j * 2) ∧ i = .int .i64 j ∧ Below w.heap.size w wr) (fun _ i _ => n - (intOf i).toNat)
  case atStart => exact ⟨0, Nat.zero_le _, by simp, rfl, Below.refl _ _⟩
  case round =>
    obtain ⟨j, hj, rfl, rfl, hb⟩ := hrel
    have HB0 : Hid (Below w.heap.size w wr) := hb
    clear hb
    by_cases hlt : j < n
    · have i0 : (0 : Int) ≤ (j : Int) := by omega
      have i1 : (j : Int) < (n : Int) := by omega
      obtain ⟨b, off, cap1, s, hv, hbl, hs2, hfit, c0_0, c0_1⟩ := (HS.out.below HB0.out).at (k := j) (by rw [marksE_length]; exact hlt)
      rw [marksE_length] at hv
      cases hv
      rw [marksE_at hlt] at hs2
      cases hs2
      clear hfit
      have hm0 := markT_size (k + j * 2)
      have hm1 := markT_size (k + j * 2 + 1)
      go_wp2_with fail
      go_region_held3 (fun w' => w'.cell? ⟨b, off + j * 2, none⟩ = some (.string (markT (k + j * 2))) ∧ w'.cell? ⟨b, off + j * 2 + 1, none⟩ = some (.string (markT (k + j * 2 + 1)))) (go_keep)
        ((go_at_call 86; refine (markText_int _ (k + j * 2) (by push_cast; omega) (by omega) _).mono ?_; rintro e w1 ⟨rfl, hb1⟩; have HB1 : Hid (Below w.heap.size w w1) := HB0.out.drew.trans (hb1.mono HB0.out.size); have c1_0 := (hb1.cell (p := ⟨b, off + j * 2, none⟩) hbl).trans c0_0; have c1_1 := (hb1.cell (p := ⟨b, off + j * 2 + 1, none⟩) hbl).trans c0_1; have hbl1 : b < w1.heap.size := Nat.lt_of_lt_of_le hbl hb1.size; clear hb1 c0_0 c0_1))
      go_wp2_with fail
      go_region_held3 (fun w' => w'.cell? ⟨b, off + j * 2 + 1, none⟩ = some (.string (markT (k + j * 2 + 1)))) (go_keep)
        ((go_at_call 86; refine (markText_int _ (k + j * 2 + 1) (by push_cast; omega) (by omega) _).mono ?_; rintro e w2 ⟨rfl, hb2⟩; have HB2 : Hid (Below w.heap.size w w2) := HB1.out.drew.trans (hb2.mono HB1.out.size); have c2_1 := (hb2.cell (p := ⟨b, off + j * 2 + 1, none⟩) hbl1).trans c1_1; have hbl2 : b < w2.heap.size := Nat.lt_of_lt_of_le hbl1 hb2.size; clear hb2 c1_1))
      go_wp2
      go_roundw
      case rel => exact ⟨j + 1, by omega, by go_num, by go_num, HB2.out⟩
      case measure => simp [intOf]; omega
    · have hje : j = n := by omega
      subst hje
      go_wp2
      go_ret
      exact ⟨by push_cast; rfl, HB0.out⟩
set_option maxHeartbeats 2000000 in
theorem heldAffixS_x (w : World) (v : Value) (k : Nat) (x : List Aff) (h : AffsAt w v (marksA k x.length)) (hs : x.length ≤ 1048576) (hk : k ≤ 1000000000) :
    Calls Tryz.prog 90 #[v, .int .i64 k] w fun e w' => e = .returned (.int .i64 ((k + x.length * 5 : Nat) : Int)) ∧ Below w.heap.size w w' := by
  obtain ⟨a, cap, rfl, hc, hm⟩ := h.form
  rw [marksA_length] at hc h ⊢
  generalize hn : x.length = n at *
  clear hn
  have HS : Hid (AffsAt w (.slice a n cap) (marksA k n)) := h
  clear h
  unfold maxLen at hm
  go_enter Tryz.func90, Tryz.ntmps90
  go_wp2
  go_loopw [1, 5] (fun kv i wr => ∃ (j : Nat), j ≤ n ∧ kv = .int .i64 (k + j * 5) ∧ i = .int .i64 j ∧ Below w.heap.size w wr) (fun _ i _ => n - (intOf i).toNat)
  case atStart => exact ⟨0, Nat.zero_le _, by simp, rfl, Below.refl _ _⟩
  case round =>
    obtain ⟨j, hj, rfl, rfl, hb⟩ := hrel
    have HB0 : Hid (Below w.heap.size w wr) := hb
    clear hb
    by_cases hlt : j < n
    · have i0 : (0 : Int) ≤ (j : Int) := by omega
      have i1 : (j : Int) < (n : Int) := by omega
      obtain ⟨b, off, cap1, s, hv, hbl, hs2, hfit, c0_0, c0_1, c0_2, c0_3, c0_4⟩ := (HS.out.below HB0.out).at (k := j) (by rw [marksA_length]; exact hlt)
      rw [marksA_length] at hv
      cases hv
      rw [marksA_at hlt] at hs2
      cases hs2
      simp only [markA] at c0_0 c0_1 c0_2 c0_3 c0_4
      push_cast at c0_1
      rcases Classical.em (((k : Int) + (j : Int) * 5 + 1) % 3 = 0) with h3 | h3
      all_goals
        simp only [h3, decide_true, decide_false] at c0_1
        clear hfit
        have hm0 := markT_size (k + j * 5)
        have hm2 := markT_size (k + j * 5 + 2)
        have hm3 := markT_size (k + j * 5 + 3)
        have hm4 := markT_size (k + j * 5 + 4)
        go_wp2_with fail
        go_region_held3 (fun w' => w'.cell? ⟨b, off + j * 5, none⟩ = some (.string (markT (k + j * 5))) ∧ w'.cell? ⟨b, off + j * 5 + 2, none⟩ = some (.string (markT (k + j * 5 + 2))) ∧ w'.cell? ⟨b, off + j * 5 + 3, none⟩ = some (.string (markT (k + j * 5 + 3))) ∧ w'.cell? ⟨b, off + j * 5 + 4, none⟩ = some (.string (markT (k + j * 5 + 4)))) (go_keep)
          ((go_at_call 86; refine (markText_int _ (k + j * 5) (by push_cast; omega) (by omega) _).mono ?_; rintro e w1 ⟨rfl, hb1⟩; have HB1 : Hid (Below w.heap.size w w1) := HB0.out.drew.trans (hb1.mono HB0.out.size); have c1_0 := (hb1.cell (p := ⟨b, off + j * 5, none⟩) hbl).trans c0_0; have c1_1 := (hb1.cell (p := ⟨b, off + j * 5 + 1, none⟩) hbl).trans c0_1; have c1_2 := (hb1.cell (p := ⟨b, off + j * 5 + 2, none⟩) hbl).trans c0_2; have c1_3 := (hb1.cell (p := ⟨b, off + j * 5 + 3, none⟩) hbl).trans c0_3; have c1_4 := (hb1.cell (p := ⟨b, off + j * 5 + 4, none⟩) hbl).trans c0_4; have hbl1 : b < w1.heap.size := Nat.lt_of_lt_of_le hbl hb1.size; clear hb1 c0_0 c0_1 c0_2 c0_3 c0_4))
        go_wp2_with fail
        go_region_held3 (fun w' => w'.cell? ⟨b, off + j * 5 + 2, none⟩ = some (.string (markT (k + j * 5 + 2))) ∧ w'.cell? ⟨b, off + j * 5 + 3, none⟩ = some (.string (markT (k + j * 5 + 3))) ∧ w'.cell? ⟨b, off + j * 5 + 4, none⟩ = some (.string (markT (k + j * 5 + 4)))) (go_keep)
          ((go_at_call 86; refine (markText_int _ (k + j * 5 + 2) (by push_cast; omega) (by omega) _).mono ?_; rintro e w2 ⟨rfl, hb2⟩; have HB2 : Hid (Below w.heap.size w w2) := HB1.out.drew.trans (hb2.mono HB1.out.size); have c2_2 := (hb2.cell (p := ⟨b, off + j * 5 + 2, none⟩) hbl1).trans c1_2; have c2_3 := (hb2.cell (p := ⟨b, off + j * 5 + 3, none⟩) hbl1).trans c1_3; have c2_4 := (hb2.cell (p := ⟨b, off + j * 5 + 4, none⟩) hbl1).trans c1_4; have hbl2 : b < w2.heap.size := Nat.lt_of_lt_of_le hbl1 hb2.size; clear hb2 c1_2 c1_3 c1_4))
        go_wp2_with fail
        go_region_held3 (fun w' => w'.cell? ⟨b, off + j * 5 + 3, none⟩ = some (.string (markT (k + j * 5 + 3))) ∧ w'.cell? ⟨b, off + j * 5 + 4, none⟩ = some (.string (markT (k + j * 5 + 4)))) (go_keep)
          ((go_at_call 86; refine (markText_int _ (k + j * 5 + 3) (by push_cast; omega) (by omega) _).mono ?_; rintro e w3 ⟨rfl, hb3⟩; have HB3 : Hid (Below w.heap.size w w3) := HB2.out.drew.trans (hb3.mono HB2.out.size); have c3_3 := (hb3.cell (p := ⟨b, off + j * 5 + 3, none⟩) hbl2).trans c2_3; have c3_4 := (hb3.cell (p := ⟨b, off + j * 5 + 4, none⟩) hbl2).trans c2_4; have hbl3 : b < w3.heap.size := Nat.lt_of_lt_of_le hbl2 hb3.size; clear hb3 c2_3 c2_4))
        go_wp2_with fail
        go_region_held3 (fun w' => w'.cell? ⟨b, off + j * 5 + 4, none⟩ = some (.string (markT (k + j * 5 + 4)))) (go_keep)
          ((go_at_call 86; refine (markText_int _ (k + j * 5 + 4) (by push_cast; omega) (by omega) _).mono ?_; rintro e w4 ⟨rfl, hb4⟩; have HB4 : Hid (Below w.heap.size w w4) := HB3.out.drew.trans (hb4.mono HB3.out.size); have c4_4 := (hb4.cell (p := ⟨b, off + j * 5 + 4, none⟩) hbl3).trans c3_4; have hbl4 : b < w4.heap.size := Nat.lt_of_lt_of_le hbl3 hb4.size; clear hb4 c3_4))
        go_wp2
        go_roundw
        case rel => exact ⟨j + 1, by omega, by go_num, by go_num, HB4.out⟩
        case measure => simp [intOf]; omega
    · have hje : j = n := by omega
      subst hje
      go_wp2
      go_ret
      exact ⟨by push_cast; rfl, HB0.out⟩
/- Of the types 85 and 80. -/
/-- Changes: what goes, what comes, whether affixes change, which. -/
abbrev DeltaM := List ByteArray × List (ByteArray × ByteArray) × Bool × List Aff
def DeltaAt (w : World) (v : Value) (x : DeltaM) : Prop := ∃ vg vc vl, v = .agg #[vg, vc, .bool x.2.2.1, vl] ∧ TextsAt w vg x.1 ∧ EntsAt w vc x.2.1 ∧ AffsAt w vl x.2.2.2
def DeltaOwn (lo hi : Nat) (w : World) (v : Value) (x : DeltaM) : Prop := ∃ vg vc vl, v = .agg #[vg, vc, .bool x.2.2.1, vl] ∧ TextsRow lo hi w vg x.1 ∧ EntsOwn lo hi w vc x.2.1 ∧ AffsOwn lo hi w vl x.2.2.2
def DeltaSm (x : DeltaM) : Prop := x.1.length ≤ 1048576 ∧ x.2.1.length ≤ 1048576 ∧ x.2.2.2.length ≤ 1048576
def deltaCnt (x : DeltaM) : Nat := x.1.length + x.2.1.length * 2 + x.2.2.2.length * 5
def deltaMk (k : Nat) (x : DeltaM) : DeltaM := (marks k x.1.length, marksE (k + x.1.length) x.2.1.length, x.2.2.1, marksA (k + x.1.length + x.2.1.length * 2) x.2.2.2.length)
theorem DeltaAt.form {w : World} {v : Value} {x : DeltaM} (h : DeltaAt w v x) : ∃ a b c d, v = .agg #[a, b, c, d] := by obtain ⟨vg, vc, vl, hv, _⟩ := h; exact ⟨_, _, _, _, hv⟩
theorem DeltaAt.form2 {w : World} {v : Value} {x : DeltaM} (h : DeltaAt w v x) : ∃ a n c a' n' c' b a'' n'' c'', v = .agg #[.slice a n c, .slice a' n' c', .bool b, .slice a'' n'' c''] := by
  obtain ⟨vg, vc, vl, rfl, h1, h2, h3⟩ := h
  obtain ⟨a, c, rfl, _⟩ := h1.form
  obtain ⟨a', c', rfl, _⟩ := h2.form
  obtain ⟨a'', c'', rfl, _⟩ := h3.form
  exact ⟨_, _, _, _, _, _, _, _, _, _, rfl⟩
theorem DeltaAt.below {w w' : World} {v : Value} {x : DeltaM} (h : DeltaAt w v x) (hb : Below w.heap.size w w') : DeltaAt w' v x := by
  obtain ⟨vg, vc, vl, hv, h1, h2, h3⟩ := h
  exact ⟨vg, vc, vl, hv, h1.below hb, h2.below hb, h3.below hb⟩
theorem DeltaOwn.at {lo hi : Nat} {w : World} {v : Value} {x : DeltaM} (h : DeltaOwn lo hi w v x) : DeltaAt w v x := by
  obtain ⟨vg, vc, vl, hv, h1, h2, h3⟩ := h
  exact ⟨vg, vc, vl, hv, h1.at, h2.at, h3.at⟩
theorem DeltaOwn.below {lo hi : Nat} {w w' : World} {v : Value} {x : DeltaM} (h : DeltaOwn lo hi w v x) (hb : Below w.heap.size w w') : DeltaOwn lo hi w' v x := by
  obtain ⟨vg, vc, vl, hv, h1, h2, h3⟩ := h
  exact ⟨vg, vc, vl, hv, h1.below hb, h2.below hb, h3.below hb⟩
theorem DeltaOwn.wr {lo hi l h' : Nat} {w w' : World} {v : Value} {x : DeltaM} (h : DeltaOwn lo hi w v x) (hw : Wr l h' w w') (hl : h' ≤ lo) : DeltaOwn lo hi w' v x := by
  obtain ⟨vg, vc, vl, hv, h1, h2, h3⟩ := h
  exact ⟨vg, vc, vl, hv, h1.wr hw hl, h2.wr hw hl, h3.wr hw hl⟩
theorem eqDelta_u (w : World) (v u : Value) (x : DeltaM) (h : DeltaAt w v x) (h' : DeltaAt w u x) :
    Calls Tryz.prog 39 #[v, u] w fun e w' => e = .returned (.bool true) ∧ Below w.heap.size w w' := by
  obtain ⟨vg, vc, vl, rfl, h1, h2, h3⟩ := h
  obtain ⟨ug, uc, ul, rfl, h1', h2', h3'⟩ := h'
  exact eqDelta_same w vg vc vl ug uc ul x.2.2.1 x.1 x.2.1 x.2.2.2 h1 h2 h3 h1' h2' h3'
set_option maxHeartbeats 1000000 in
theorem markDelta_u (lo hi k : Nat) (w : World) (v : Value) (x : DeltaM) (h : DeltaOwn lo hi w v x) (hs : DeltaSm x) (hk : k ≤ 10000000000) (hlo : hi ≤ w.heap.size) (hlh : lo ≤ hi) :
    Calls Tryz.prog 44 #[v, .int .i64 k] w fun e w' => e = .returned (.int .i64 ((k + deltaCnt x : Nat) : Int)) ∧ DeltaOwn lo hi w' v (deltaMk k x) ∧ Wr lo hi w w' := by
  obtain ⟨vg, vc, vl, rfl, hg, he, ha⟩ := h
  obtain ⟨gs, es, af, xs⟩ := x
  simp only [deltaCnt, deltaMk, DeltaSm] at *
  obtain ⟨hs0, hs1, hs2⟩ := hs
  have hlo2 : lo ≤ w.heap.size := by omega
  have HB0 : Hid (Below w.heap.size w (w.alloc (.cells #[vg, vc, .bool af, vl] 31))) := (Below.refl _ _).alloc (Nat.le_refl _) _
  have HG : Hid (TextsRow lo hi (w.alloc (.cells #[vg, vc, .bool af, vl] 31)) vg gs) := hg.below HB0.out
  have HE : Hid (EntsOwn lo hi (w.alloc (.cells #[vg, vc, .bool af, vl] 31)) vc es) := he.below HB0.out
  have HA : Hid (AffsOwn lo hi (w.alloc (.cells #[vg, vc, .bool af, vl] 31)) vl xs) := ha.below HB0.out
  clear ha he hg
  go_enter Tryz.func44, Tryz.ntmps44
  go_wp2_with fail
  refine (markStringS_r lo hi k _ vg gs.length _ HG.out.1 (by omega) (by omega) (by simp; omega)).mono ?_
  rintro e w1 ⟨rfl, hG1, hw1, hg1⟩
  have HW0 : Hid (Wr lo hi (w.alloc (.cells #[vg, vc, .bool af, vl] 31)) w1) := hw1
  have HG1 : Hid (TextsRow lo hi w1 vg (marks k gs.length)) := hG1
  have HE1 : Hid (EntsOwn lo hi w1 vc es) := ⟨HE.out.1.apart HG.out.1 (by decide) hg1, HE.out.2⟩
  have HA1 : Hid (AffsOwn lo hi w1 vl xs) := ⟨HA.out.1.apart HG.out.1 (by decide) hg1, HA.out.2⟩
  have c1 : w1.cell? ⟨w.heap.size, 1, none⟩ = some vc := box_cell hw1 hlo 1
  have hz1 : w.heap.size < w1.heap.size := by have := hw1.sz; simp at this; omega
  clear hG1 hw1 hg1
  go_wp2_with fail
  refine (markEntryS_any lo hi (k + gs.length) _ vc es.length _ HE1.out.1 (by omega) (by omega) (by omega)).mono ?_
  rintro e w2 ⟨rfl, hE2, hw2, hg2⟩
  have HW2 : Hid (Wr lo hi (w.alloc (.cells #[vg, vc, .bool af, vl] 31)) w2) := HW0.out.trans hw2
  have HG2 : Hid (TextsRow lo hi w2 vg (marks k gs.length)) := ⟨HG1.out.1.apart HE1.out.1 (by decide) hg2, HG1.out.2⟩
  have HA2 : Hid (AffsOwn lo hi w2 vl xs) := ⟨HA1.out.1.apart HE1.out.1 (by decide) hg2, HA1.out.2⟩
  have HE2 : Hid (EntsOwn lo hi w2 vc (marksE (k + gs.length) es.length)) := hE2
  have c2 : w2.cell? ⟨w.heap.size, 3, none⟩ = some vl := box_cell HW2.out hlo 3
  have hz2 : w.heap.size < w2.heap.size := by have := hw2.sz; omega
  clear hE2 hw2 hg2 c1
  go_wp2_with fail
  refine (markAffixS_any lo hi (k + gs.length + es.length * 2) _ vl xs.length _ HA2.out.1 (by omega) (by omega) (by omega)).mono ?_
  rintro e w3 ⟨rfl, hA3, hw3, hg3⟩
  have HW3 : Hid (Wr lo hi w w3) := (Wr.of_below HB0.out hlo2).trans (HW2.out.trans hw3)
  have HG3 : Hid (TextsRow lo hi w3 vg (marks k gs.length)) := ⟨HG2.out.1.apart HA2.out.1 (by decide) hg3, HG2.out.2⟩
  have HE3 : Hid (EntsOwn lo hi w3 vc (marksE (k + gs.length) es.length)) := ⟨HE2.out.1.apart HA2.out.1 (by decide) hg3, HE2.out.2⟩
  have HA3 : Hid (AffsOwn lo hi w3 vl (marksA (k + gs.length + es.length * 2) xs.length)) := hA3
  clear hA3 hw3 hg3 c2
  go_wp2
  go_ret
  exact ⟨by push_cast; simp only [Int.add_assoc]; rfl, ⟨vg, vc, vl, rfl, HG3.out, HE3.out, HA3.out⟩, HW3.out⟩
set_option maxHeartbeats 1000000 in
theorem heldDelta_u (w : World) (v : Value) (k : Nat) (x : DeltaM) (h : DeltaAt w v (deltaMk k x)) (hs : DeltaSm x) (hk : k ≤ 900000000) :
    Calls Tryz.prog 45 #[v, .int .i64 k] w fun e w' => e = .returned (.int .i64 ((k + deltaCnt x : Nat) : Int)) ∧ Below w.heap.size w w' := by
  obtain ⟨vg, vc, vl, rfl, hg, he, ha⟩ := h
  obtain ⟨gs, es, af, xs⟩ := x
  simp only [deltaCnt, deltaMk, DeltaSm] at *
  obtain ⟨hs0, hs1, hs2⟩ := hs
  have HB0 : Hid (Below w.heap.size w (w.alloc (.cells #[vg, vc, .bool af, vl] 31))) := (Below.refl _ _).alloc (Nat.le_refl _) _
  have HG : Hid (TextsAt w vg (marks k gs.length)) := hg
  have HE : Hid (EntsAt w vc (marksE (k + gs.length) es.length)) := he
  have HA : Hid (AffsAt w vl (marksA (k + gs.length + es.length * 2) xs.length)) := ha
  clear ha he hg
  obtain ⟨k1, hk1⟩ : ∃ K : Nat, k + gs.length = K := ⟨_, rfl⟩
  obtain ⟨k2, hk2⟩ : ∃ K : Nat, k1 + es.length * 2 = K := ⟨_, rfl⟩
  rw [hk1] at HE HA
  rw [hk2] at HA
  have n1 : ¬ ((k1 : Int) < 0) := by omega
  have n2 : ¬ ((k2 : Int) < 0) := by omega
  have b1 : k1 ≤ 1000000000 := by omega
  have b2 : k2 ≤ 1000000000 := by omega
  have HK : Hid (k + (gs.length + es.length * 2 + xs.length * 5) = k2 + xs.length * 5) := by show _ = _; omega
  have HK1 : Hid (k + gs.length = k1) := hk1
  have HK2 : Hid (k1 + es.length * 2 = k2) := hk2
  rw [HK.out]
  obtain ⟨k3, hk3⟩ : ∃ K : Nat, k2 + xs.length * 5 = K := ⟨_, rfl⟩
  have HK3 : Hid (k2 + xs.length * 5 = k3) := hk3
  have n3 : ¬ ((k3 : Int) < 0) := by omega
  rw [hk3]
  clear hk1 hk2 hk3
  go_enter Tryz.func45, Tryz.ntmps45
  go_wp2_with fail
  refine (cK (heldStringS_x _ _ k gs (HG.out.below HB0.out) hs0 (by omega)) HK1.out).mono ?_
  rintro e w1 ⟨rfl, hb1⟩
  have HB1 : Hid (Below w.heap.size w w1) := HB0.out.trans (hb1.mono (by simp))
  have c1 : w1.cell? ⟨w.heap.size, 1, none⟩ = some vc := (hb1.cell (p := ⟨w.heap.size, 1, none⟩) (by simp)).trans (by simp [go_sem])
  have c3 : w1.cell? ⟨w.heap.size, 3, none⟩ = some vl := (hb1.cell (p := ⟨w.heap.size, 3, none⟩) (by simp)).trans (by simp [go_sem])
  have hz1 : w.heap.size < w1.heap.size := by have := hb1.size; simp at this; omega
  clear hb1
  go_wp2_with fail
  refine (cK (heldEntryS_x _ _ k1 es (HE.out.below HB1.out) hs1 b1) HK2.out).mono ?_
  rintro e w2 ⟨rfl, hb2⟩
  have HB2 : Hid (Below w.heap.size w w2) := HB1.out.trans (hb2.mono HB1.out.size)
  have d3 := (hb2.cell (p := ⟨w.heap.size, 3, none⟩) hz1).trans c3
  clear hb2 c1 c3
  go_wp2_with fail
  refine (cK (heldAffixS_x _ _ k2 xs (HA.out.below HB2.out) hs2 b2) HK3.out).mono ?_
  rintro e w3 ⟨rfl, hb3⟩
  have HB3 : Hid (Below w.heap.size w w3) := HB2.out.trans (hb3.mono HB2.out.size)
  clear hb3 d3
  go_wp2
  go_ret
  exact ⟨rfl, HB3.out⟩
end Go.Proofs.YtcdgikhkjpneiaaGreatDoor
