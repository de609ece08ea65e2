/-
  Memory that is one's own, by types, in one form: texts, affixes, entries, books.
-/
import Derived.Test.YtcnnjbiambccdaaGreatDoorW134
import Derived.Test.YtcnnjbiambccdaaGreatDoorGW78
import Derived.Test.YtcnnjbiambccdaaGreatDoorGW112
import Derived.Test.YtcnnjbiambccdaaGreatDoorW71
import Derived.WalkKit
import Derived.ProofKit
import Derived.OpenShut
import Derived.ShutString
import Derived.ChangeOld
import Derived.Below
import Derived.Deep.RegionHeld3
namespace Go.Proofs.YtcnnjbiambccdaaGreatDoor
open Go.RowKit
set_option linter.unusedVariables false
/-- Texts so far. -/
def TxTo (k : Nat) (xs : List ByteArray) (f : Nat → Value) : Prop := ∀ (j : Nat) (x : ByteArray), j < k → xs[j]? = some x → f j = .string x
/-- Texts in a row of their own. -/
def TextsRow (lo hi : Nat) (w : World) (v : Value) (xs : List ByteArray) : Prop :=
  RowOwn 9 1 lo hi w v xs.length (TxTo xs.length xs) ∧ ∀ (i : Nat) (x : ByteArray), xs[i]? = some x → x.size ≤ maxLen
theorem TextsRow.at {lo hi : Nat} {w : World} {v : Value} {xs : List ByteArray} (h : TextsRow lo hi w v xs) : TextsAt w v xs := by
  obtain ⟨⟨a, cap, hv, hc, hm, hh⟩, hf⟩ := h
  refine ⟨a, cap, hv, hc, Nat.le_trans hc hm, hf, fun hn => ?_⟩
  obtain ⟨g, m, f, ha, _, _, hle, hr, hx⟩ := hh (fun e => hn (List.length_eq_zero_iff.1 e))
  refine ⟨g, 0, ha, hr.lt, fun i x hi => ?_⟩
  have hlt : i < xs.length := (List.getElem?_eq_some_iff.1 hi).1
  rw [Nat.zero_add]
  exact (hr.cell (by omega)).trans (by rw [hx i x hlt hi])
theorem TextsRow.below {lo hi : Nat} {w w' : World} {v : Value} {xs : List ByteArray} (h : TextsRow lo hi w v xs) (hb : Below w.heap.size w w') : TextsRow lo hi w' v xs := ⟨h.1.below hb, h.2⟩
theorem TextsRow.wr {lo hi l h' : Nat} {w w' : World} {v : Value} {xs : List ByteArray} (h : TextsRow lo hi w v xs) (hw : Wr l h' w w') (hl : h' ≤ lo) : TextsRow lo hi w' v xs := ⟨h.1.wr hw hl, h.2⟩
theorem TextsRow.weak {lo hi lo' hi' : Nat} {w : World} {v : Value} {xs : List ByteArray} (h : TextsRow lo hi w v xs) (h1 : lo' ≤ lo) (h2 : hi ≤ hi') : TextsRow lo' hi' w v xs := ⟨h.1.weak h1 h2, h.2⟩
theorem AffsOwn.weak {lo hi lo' hi' : Nat} {w : World} {v : Value} {xs : List Aff} (h : AffsOwn lo hi w v xs) (h1 : lo' ≤ lo) (h2 : hi ≤ hi') : AffsOwn lo' hi' w v xs := ⟨h.1.weak h1 h2, h.2⟩
theorem EntsOwn.weak {lo hi lo' hi' : Nat} {w : World} {v : Value} {xs : List (ByteArray × ByteArray)} (h : EntsOwn lo hi w v xs) (h1 : lo' ≤ lo) (h2 : hi ≤ hi') : EntsOwn lo' hi' w v xs := ⟨h.1.weak h1 h2, h.2⟩
theorem RowOwn.set {t : TypeId} {size lo hi G : Nat} {w : World} {n n' c : Nat} {C : (Nat → Value) → Prop} (h : RowOwn t size lo hi w (.slice (some ⟨G, 0, none⟩) n c) n' C) {p : Addr} (hp : G ≠ p.block) (u : Value) : RowOwn t size lo hi (w.setCell p u) (.slice (some ⟨G, 0, none⟩) n c) n' C :=
  h.block fun g _ _ hg _ _ => by
    have e : g = G := by simp [Value.ownBlock] at hg; exact hg.symm
    subst e
    exact Below.heap_setCell _ _ _ g hp
theorem AffsOwn.set {lo hi G : Nat} {w : World} {n c : Nat} {xs : List Aff} (h : AffsOwn lo hi w (.slice (some ⟨G, 0, none⟩) n c) xs) {p : Addr} (hp : G ≠ p.block) (u : Value) : AffsOwn lo hi (w.setCell p u) (.slice (some ⟨G, 0, none⟩) n c) xs := ⟨h.1.set hp u, h.2⟩
theorem EntsOwn.set {lo hi G : Nat} {w : World} {n c : Nat} {xs : List (ByteArray × ByteArray)} (h : EntsOwn lo hi w (.slice (some ⟨G, 0, none⟩) n c) xs) {p : Addr} (hp : G ≠ p.block) (u : Value) : EntsOwn lo hi (w.setCell p u) (.slice (some ⟨G, 0, none⟩) n c) xs := ⟨h.1.set hp u, h.2⟩
theorem TextsRow.set {lo hi G : Nat} {w : World} {n c : Nat} {xs : List ByteArray} (h : TextsRow lo hi w (.slice (some ⟨G, 0, none⟩) n c) xs) {p : Addr} (hp : G ≠ p.block) (u : Value) : TextsRow lo hi (w.setCell p u) (.slice (some ⟨G, 0, none⟩) n c) xs := ⟨h.1.set hp u, h.2⟩
/-- What was made by itself. -/
theorem TextsRow.of_own {lo : Nat} {w : World} {v : Value} {xs : List ByteArray} (h : TextsOwn lo w v xs) : TextsRow lo w.heap.size w v xs := by
  obtain ⟨a, cap, hv, hc, hm, hf, hh⟩ := h
  refine ⟨⟨a, cap, hv, hc, hm, fun hn => ?_⟩, hf⟩
  obtain ⟨g, n, f, ha, hlo, hle, hr, hx⟩ := hh (fun e => hn (by rw [e]; rfl))
  exact ⟨g, n, f, ha, hlo, hr.lt, by omega, hr, fun j x _ hj => hx j x hj⟩
/-- Books. -/
def BookAt (w : World) (v : Value) (x : List Aff × List (ByteArray × ByteArray)) : Prop := ∃ va ve, v = .agg #[va, ve] ∧ AffsAt w va x.1 ∧ EntsAt w ve x.2
def BookOwn (lo hi : Nat) (w : World) (v : Value) (x : List Aff × List (ByteArray × ByteArray)) : Prop := ∃ va ve, v = .agg #[va, ve] ∧ AffsOwn lo hi w va x.1 ∧ EntsOwn lo hi w ve x.2
def BookSm (x : List Aff × List (ByteArray × ByteArray)) : Prop := x.1.length ≤ 1048576 ∧ x.2.length ≤ 1048576
def bookCnt (x : List Aff × List (ByteArray × ByteArray)) : Nat := x.1.length * 5 + x.2.length * 2
def bookMk (k : Nat) (x : List Aff × List (ByteArray × ByteArray)) : List Aff × List (ByteArray × ByteArray) := (marksA k x.1.length, marksE (k + x.1.length * 5) x.2.length)
theorem BookAt.form {w : World} {v : Value} {x : List Aff × List (ByteArray × ByteArray)} (h : BookAt w v x) : ∃ va ve, v = .agg #[va, ve] := by obtain ⟨va, ve, hv, _⟩ := h; exact ⟨va, ve, hv⟩
theorem BookAt.below {w w' : World} {v : Value} {x : List Aff × List (ByteArray × ByteArray)} (h : BookAt w v x) (hb : Below w.heap.size w w') : BookAt w' v x := by
  obtain ⟨va, ve, hv, h1, h2⟩ := h
  exact ⟨va, ve, hv, h1.below hb, h2.below hb⟩
theorem BookOwn.at {lo hi : Nat} {w : World} {v : Value} {x : List Aff × List (ByteArray × ByteArray)} (h : BookOwn lo hi w v x) : BookAt w v x := by
  obtain ⟨va, ve, hv, h1, h2⟩ := h
  exact ⟨va, ve, hv, h1.at, h2.at⟩
theorem BookOwn.below {lo hi : Nat} {w w' : World} {v : Value} {x : List Aff × List (ByteArray × ByteArray)} (h : BookOwn lo hi w v x) (hb : Below w.heap.size w w') : BookOwn lo hi w' v x := by
  obtain ⟨va, ve, hv, h1, h2⟩ := h
  exact ⟨va, ve, hv, h1.below hb, h2.below hb⟩
theorem BookOwn.wr {lo hi l h' : Nat} {w w' : World} {v : Value} {x : List Aff × List (ByteArray × ByteArray)} (h : BookOwn lo hi w v x) (hw : Wr l h' w w') (hl : h' ≤ lo) : BookOwn lo hi w' v x := by
  obtain ⟨va, ve, hv, h1, h2⟩ := h
  exact ⟨va, ve, hv, h1.wr hw hl, h2.wr hw hl⟩
set_option maxHeartbeats 1000000 in
theorem toStringS_own (w : World) (v : Value) (xs : List ByteArray) (h : TextsAt w v xs) (hn : xs.length ≤ 1048576) :
    Calls Tryz.prog 25 #[v] w fun e w' => e = .returned (.slice (some ⟨w.heap.size, 0, none⟩) xs.length xs.length) ∧ TextsRow w.heap.size w'.heap.size w' (.slice (some ⟨w.heap.size, 0, none⟩) xs.length xs.length) xs ∧ Below w.heap.size w w' := by
  have hfit := h.fit
  obtain ⟨a, cap, rfl, hc, hm⟩ := h.form
  have HS : Hid (TextsAt w (.slice a xs.length cap) xs) := h
  have HFI : Hid (∀ (i : Nat) (x : ByteArray), xs[i]? = some x → x.size ≤ maxLen) := hfit
  clear h hfit
  unfold maxLen at hm
  have hmk := run_make_row' (P := Tryz.prog) 22 9 (.string ⟨#[]⟩) 16 Tryz.underlying22 Tryz.info_text rfl .i64 .i64 xs.length (by omega) (by omega)
  have HF : Hid ((w.alloc (.cells (madeCells #[.string ⟨#[]⟩] xs.length) 9)).rowIs w.heap.size 9 xs.length (fun _ => .string ⟨#[]⟩)) := World.rowIs_made w (.string ⟨#[]⟩) xs.length 9
  go_enter Tryz.func25, Tryz.ntmps25
  go_wp2
  go_loopw [4] (fun i wr => ∃ (k : Nat) (f : Nat → Value), k ≤ xs.length ∧ i = .int .i64 k ∧ wr.rowIs w.heap.size 9 xs.length f ∧ (∀ (j : Nat) (x : ByteArray), j < k → xs[j]? = some x → f j = .string x) ∧ Below w.heap.size w wr) (fun i _ => xs.length - (intOf i).toNat)
  case atStart => exact ⟨0, _, Nat.zero_le _, rfl, HF.out, fun j s hj => absurd hj (by omega), (Below.refl _ _).alloc (Nat.le_refl _) _⟩
  case round =>
    obtain ⟨k, f, hk, rfl, hrow, hall, hb⟩ := hrel
    have HA : Hid (∀ (j : Nat) (x : ByteArray), j < k → xs[j]? = some x → f j = .string x) := hall
    have HB : Hid (Below w.heap.size w wr) := hb
    have HW : Hid (wr.rowIs w.heap.size 9 xs.length f) := hrow
    clear hall hb hrow
    by_cases hlt : k < xs.length
    · obtain ⟨b, off, cap', x, hv, hbl, hx, hxf, e0⟩ := (HS.out.below HB.out).at hlt
      cases hv
      have HX : Hid (xs[k]? = some x) := hx
      have d0 := HW.out.cell (i := k) hlt
      have g0 := HW.out.frozen k
      clear hx hxf
      go_wp2
      go_roundw
      case rel =>
        refine ⟨k + 1, _, by omega, by go_num, HW.out.set k _, fun j y hj hy => ?_, HB.out.setCell (Nat.le_refl _) _⟩
        by_cases e : j = k
        · subst e
          rw [HX.out] at hy
          cases hy
          simp
        · simp only [e, if_false]
          exact HA.out j y (by omega) hy
      case measure => simp [intOf]; omega
    · obtain rfl : k = xs.length := by omega
      go_wp2
      go_ret
      exact ⟨rfl, ⟨⟨_, _, rfl, Nat.le_refl _, by unfold maxLen; omega, fun _ => ⟨w.heap.size, _, f, rfl, Nat.le_refl _, HW.out.lt, by omega, HW.out, HA.out⟩⟩, HFI.out⟩, HB.out⟩
end Go.Proofs.YtcnnjbiambccdaaGreatDoor
/-
  Contracts of copies, marks and what holds them, in one form.
-/
namespace Go.Proofs.YtcnnjbiambccdaaGreatDoor
open Go.RowKit
set_option linter.unusedVariables false
theorem toAffixS_x (w : World) (v : Value) (x : List Aff) (h : AffsAt w v x) (hs : x.length ≤ 1048576) :
    Calls Tryz.prog 27 #[v] w fun e w' => ∃ v', e = .returned v' ∧ AffsOwn w.heap.size w'.heap.size w' v' x ∧ Below w.heap.size w w' :=
  (toAffixS_own w v x h hs).mono fun e w' ⟨h1, h2, h3⟩ => ⟨_, h1, h2, h3⟩
theorem toEntryS_x (w : World) (v : Value) (x : List (ByteArray × ByteArray)) (h : EntsAt w v x) (hs : x.length ≤ 1048576) :
    Calls Tryz.prog 26 #[v] w fun e w' => ∃ v', e = .returned v' ∧ EntsOwn w.heap.size w'.heap.size w' v' x ∧ Below w.heap.size w w' :=
  (toEntryS_own w v x h hs).mono fun e w' ⟨h1, h2, h3⟩ => ⟨_, h1, h2, h3⟩
theorem toStringS_x (w : World) (v : Value) (x : List ByteArray) (h : TextsAt w v x) (hs : x.length ≤ 1048576) :
    Calls Tryz.prog 25 #[v] w fun e w' => ∃ v', e = .returned v' ∧ TextsRow w.heap.size w'.heap.size w' v' x ∧ Below w.heap.size w w' :=
  (toStringS_own w v x h hs).mono fun e w' ⟨h1, h2, h3⟩ => ⟨_, h1, h2, h3⟩
end Go.Proofs.YtcnnjbiambccdaaGreatDoor
/-
  Small words for the walks of exact laws.
-/
namespace Go.Proofs.YtcnnjbiambccdaaGreatDoor
open Go.RowKit
set_option linter.unusedVariables false
/-- A number that is called by a letter. -/
theorem cK {P : Program} {f : FuncId} {args : Array Value} {w : World} {n K : Nat} {Q : World → Prop} (h : Calls P f args w fun e w' => e = .returned (.int .i64 (n : Int)) ∧ Q w') (hn : n = K) : Calls P f args w fun e w' => e = .returned (.int .i64 (K : Int)) ∧ Q w' := by
  subst hn
  exact h
theorem wr_cell {lo hi : Nat} {w w' : World} (h : Wr lo hi w w') {b : Nat} (i : Nat) (hp : b < lo ∨ hi ≤ b) (hlt : b < w.heap.size) : w'.cell? ⟨b, i, none⟩ = w.cell? ⟨b, i, none⟩ := by
  refine World.cell?_of_block (a := ⟨b, i, none⟩) ?_
  rcases hp with hp | hp
  · exact h.1.block b hp
  · exact h.2.2.1 b hp hlt
theorem BookAt.form2 {w : World} {v : Value} {x : List Aff × List (ByteArray × ByteArray)} (h : BookAt w v x) : ∃ a n c a' n' c', v = .agg #[.slice a n c, .slice a' n' c'] := by
  obtain ⟨va, ve, rfl, h1, h2⟩ := h
  obtain ⟨a, c, rfl, _⟩ := h1.form
  obtain ⟨a', c', rfl, _⟩ := h2.form
  exact ⟨_, _, _, _, _, _, rfl⟩
end Go.Proofs.YtcnnjbiambccdaaGreatDoor
/-
  Arguments of laws, opened: slices of affixes, of texts; an entry.
-/
namespace Go.Proofs.YtcnnjbiambccdaaGreatDoor
open Go.ChangeShapes Go.WideShapes Go.ChangeAt Go.RowKit
set_option linter.unusedVariables false
set_option maxRecDepth 100000 in
theorem open_affsV {H : Type} {enc : TypeId × Value → H} {w : World} {r : Reach} {b0 base : Nat} {spare : Nat → Bool} {held : Bool} {v : Value} {d : DataW H} {p : List MemPlace}
    (hv : Value.okWide Tryz.prog w r b0 24 v) (h : DataW.Trod enc Tryz.prog w base spare held 24 v d p) : ∃ xs, AffsAt w v xs := by
  obtain ⟨a0, len0, cap0, rfl⟩ := okWide_slice Tryz.underlying24 hv
  obtain ⟨fuel, hf⟩ := h
  exact open_affs (by simpa [Value.cells] using hf)
set_option maxRecDepth 100000 in
theorem open_textsV {H : Type} {enc : TypeId × Value → H} {w : World} {r : Reach} {b0 base : Nat} {spare : Nat → Bool} {held : Bool} {v : Value} {d : DataW H} {p : List MemPlace}
    (hv : Value.okWide Tryz.prog w r b0 22 v) (h : DataW.Trod enc Tryz.prog w base spare held 22 v d p) : ∃ xs, TextsAt w v xs := by
  obtain ⟨a0, len0, cap0, rfl⟩ := okWide_slice Tryz.underlying22 hv
  obtain ⟨fuel, hf⟩ := h
  exact open_texts (by simpa [Value.cells] using hf)
set_option maxRecDepth 100000 in
theorem open_entryV {H : Type} {enc : TypeId × Value → H} {w : World} {r : Reach} {b0 base : Nat} {spare : Nat → Bool} {held : Bool} {v : Value} {d : DataW H} {p : List MemPlace}
    (hv : Value.okWide Tryz.prog w r b0 63 v) (h : DataW.Trod enc Tryz.prog w base spare held 63 v d p) :
    ∃ st fl, v = .agg #[.string st, .string fl] ∧ st.size ≤ maxLen ∧ fl.size ≤ maxLen := by
  obtain ⟨cs, rfl, hsz⟩ := okWide_struct Tryz.underlying63 hv
  obtain ⟨c0, c1, rfl⟩ : ∃ va ve, cs = #[va, ve] := by
    have h2 : cs.size = 2 := hsz.trans (by kernel_rfl)
    obtain ⟨l⟩ := cs
    match l, h2 with
    | [x, y], _ => exact ⟨x, y, rfl⟩
  obtain ⟨fuel, hf⟩ := h
  obtain ⟨xs, n, rfl, hx, hl, hn, hall⟩ := DataW.trod_struct Tryz.underlying63 hf
  have k0 := hall 0 _ rfl
  have k1 := hall 1 _ rfl
  have o9 : Tryz.prog.cellsOf 9 = 1 := by kernel_rfl
  match xs, hn with
  | [y0, y1], _ =>
    simp [Value.cells, o9] at k0 k1
    obtain ⟨s0, e0, -, l0⟩ := DataW.trod_string Tryz.underlying9 k0
    obtain ⟨s1, e1, -, l1⟩ := DataW.trod_string Tryz.underlying9 k1
    simp only [List.cons.injEq, and_true] at e0 e1
    subst e0; subst e1
    exact ⟨s0, s1, rfl, l0, l1⟩
end Go.Proofs.YtcnnjbiambccdaaGreatDoor
/-
  Entries and affixes held against their marks; changes in one form.
-/
namespace Go.Proofs.YtcnnjbiambccdaaGreatDoor
open Go.RowKit
set_option linter.unusedVariables false
/-- Changes: what goes, what comes, whether affixes change, which. -/
abbrev DeltaM := List ByteArray × List (ByteArray × ByteArray) × Bool × List Aff
def DeltaAt (w : World) (v : Value) (x : DeltaM) : Prop := ∃ vg vc vl, v = .agg #[vg, vc, .bool x.2.2.1, vl] ∧ TextsAt w vg x.1 ∧ EntsAt w vc x.2.1 ∧ AffsAt w vl x.2.2.2
def DeltaOwn (lo hi : Nat) (w : World) (v : Value) (x : DeltaM) : Prop := ∃ vg vc vl, v = .agg #[vg, vc, .bool x.2.2.1, vl] ∧ TextsRow lo hi w vg x.1 ∧ EntsOwn lo hi w vc x.2.1 ∧ AffsOwn lo hi w vl x.2.2.2
def DeltaSm (x : DeltaM) : Prop := x.1.length ≤ 1048576 ∧ x.2.1.length ≤ 1048576 ∧ x.2.2.2.length ≤ 1048576
def deltaCnt (x : DeltaM) : Nat := x.1.length + x.2.1.length * 2 + x.2.2.2.length * 5
def deltaMk (k : Nat) (x : DeltaM) : DeltaM := (marks k x.1.length, marksE (k + x.1.length) x.2.1.length, x.2.2.1, marksA (k + x.1.length + x.2.1.length * 2) x.2.2.2.length)
theorem DeltaAt.form {w : World} {v : Value} {x : DeltaM} (h : DeltaAt w v x) : ∃ a b c d, v = .agg #[a, b, c, d] := by obtain ⟨vg, vc, vl, hv, _⟩ := h; exact ⟨_, _, _, _, hv⟩
theorem DeltaAt.form2 {w : World} {v : Value} {x : DeltaM} (h : DeltaAt w v x) : ∃ a n c a' n' c' b a'' n'' c'', v = .agg #[.slice a n c, .slice a' n' c', .bool b, .slice a'' n'' c''] := by
  obtain ⟨vg, vc, vl, rfl, h1, h2, h3⟩ := h
  obtain ⟨a, c, rfl, _⟩ := h1.form
  obtain ⟨a', c', rfl, _⟩ := h2.form
  obtain ⟨a'', c'', rfl, _⟩ := h3.form
  exact ⟨_, _, _, _, _, _, _, _, _, _, rfl⟩
theorem DeltaAt.below {w w' : World} {v : Value} {x : DeltaM} (h : DeltaAt w v x) (hb : Below w.heap.size w w') : DeltaAt w' v x := by
  obtain ⟨vg, vc, vl, hv, h1, h2, h3⟩ := h
  exact ⟨vg, vc, vl, hv, h1.below hb, h2.below hb, h3.below hb⟩
theorem DeltaOwn.at {lo hi : Nat} {w : World} {v : Value} {x : DeltaM} (h : DeltaOwn lo hi w v x) : DeltaAt w v x := by
  obtain ⟨vg, vc, vl, hv, h1, h2, h3⟩ := h
  exact ⟨vg, vc, vl, hv, h1.at, h2.at, h3.at⟩
theorem DeltaOwn.below {lo hi : Nat} {w w' : World} {v : Value} {x : DeltaM} (h : DeltaOwn lo hi w v x) (hb : Below w.heap.size w w') : DeltaOwn lo hi w' v x := by
  obtain ⟨vg, vc, vl, hv, h1, h2, h3⟩ := h
  exact ⟨vg, vc, vl, hv, h1.below hb, h2.below hb, h3.below hb⟩
theorem DeltaOwn.wr {lo hi l h' : Nat} {w w' : World} {v : Value} {x : DeltaM} (h : DeltaOwn lo hi w v x) (hw : Wr l h' w w') (hl : h' ≤ lo) : DeltaOwn lo hi w' v x := by
  obtain ⟨vg, vc, vl, hv, h1, h2, h3⟩ := h
  exact ⟨vg, vc, vl, hv, h1.wr hw hl, h2.wr hw hl, h3.wr hw hl⟩
theorem box_cell {w w1 : World} {lo hi : Nat} {cs : Array Value} {t : TypeId} (hw : Wr lo hi (w.alloc (.cells cs t)) w1) (hlo : hi ≤ w.heap.size) (i : Nat) : w1.cell? ⟨w.heap.size, i, none⟩ = cs[i]? := by
  have hblk : w1.heap[w.heap.size]? = (w.alloc (.cells cs t)).heap[w.heap.size]? := hw.2.2.1 _ hlo (by simp)
  rw [cell_of_row _ _ i _ _ _ (hblk.trans (heap_alloc_last _ _))]
theorem eqDelta_u (w : World) (v u : Value) (x : DeltaM) (h : DeltaAt w v x) (h' : DeltaAt w u x) :
    Calls Tryz.prog 16 #[v, u] w fun e w' => e = .returned (.bool true) ∧ Below w.heap.size w w' := by
  obtain ⟨vg, vc, vl, rfl, h1, h2, h3⟩ := h
  obtain ⟨ug, uc, ul, rfl, h1', h2', h3'⟩ := h'
  exact eqDelta_same w vg vc vl ug uc ul x.2.2.1 x.1 x.2.1 x.2.2.2 h1 h2 h3 h1' h2' h3'
end Go.Proofs.YtcnnjbiambccdaaGreatDoor
