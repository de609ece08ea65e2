/-
  Memory that is one's own, by types, in one form: texts, affixes, entries, books.
-/
import Derived.Test.YtnhbgfgbeehipaaW134
import Derived.Test.YtnhbgfgbeehipaaGW74
import Derived.Test.YtnhbgfgbeehipaaW110
import Derived.Test.YtnhbgfgbeehipaaW71
import Derived.WalkKit
import Derived.ProofKit
import Derived.OpenShut
import Derived.ShutString
import Derived.ChangeOld
import Derived.Below
namespace Go.Proofs.Ytnhbgfgbeehipaa
open Go.RowKit
set_option linter.unusedVariables false
/-- Texts so far. -/
def TxTo (k : Nat) (xs : List ByteArray) (f : Nat → Value) : Prop := ∀ (j : Nat) (x : ByteArray), j < k → xs[j]? = some x → f j = .string x
/-- Texts in a row of their own. -/
def TextsRow (lo hi : Nat) (w : World) (v : Value) (xs : List ByteArray) : Prop :=
  RowOwn 9 1 lo hi w v xs.length (TxTo xs.length xs) ∧ ∀ (i : Nat) (x : ByteArray), xs[i]? = some x → x.size ≤ maxLen
theorem TextsRow.at {lo hi : Nat} {w : World} {v : Value} {xs : List ByteArray} (h : TextsRow lo hi w v xs) : TextsAt w v xs := by
  obtain ⟨⟨a, cap, hv, hc, hm, hh⟩, hf⟩ := h
  refine ⟨a, cap, hv, hc, Nat.le_trans hc hm, hf, fun hn => ?_⟩
  obtain ⟨g, m, f, ha, _, _, hle, hr, hx⟩ := hh (fun e => hn (List.length_eq_zero_iff.1 e))
  refine ⟨g, 0, ha, hr.lt, fun i x hi => ?_⟩
  have hlt : i < xs.length := (List.getElem?_eq_some_iff.1 hi).1
  rw [Nat.zero_add]
  exact (hr.cell (by omega)).trans (by rw [hx i x hlt hi])
theorem TextsRow.below {lo hi : Nat} {w w' : World} {v : Value} {xs : List ByteArray} (h : TextsRow lo hi w v xs) (hb : Below w.heap.size w w') : TextsRow lo hi w' v xs := ⟨h.1.below hb, h.2⟩
theorem TextsRow.wr {lo hi l h' : Nat} {w w' : World} {v : Value} {xs : List ByteArray} (h : TextsRow lo hi w v xs) (hw : Wr l h' w w') (hl : h' ≤ lo) : TextsRow lo hi w' v xs := ⟨h.1.wr hw hl, h.2⟩
theorem TextsRow.weak {lo hi lo' hi' : Nat} {w : World} {v : Value} {xs : List ByteArray} (h : TextsRow lo hi w v xs) (h1 : lo' ≤ lo) (h2 : hi ≤ hi') : TextsRow lo' hi' w v xs := ⟨h.1.weak h1 h2, h.2⟩
theorem RowOwn.set {t : TypeId} {size lo hi G : Nat} {w : World} {n n' c : Nat} {C : (Nat → Value) → Prop} (h : RowOwn t size lo hi w (.slice (some ⟨G, 0, none⟩) n c) n' C) {p : Addr} (hp : G ≠ p.block) (u : Value) : RowOwn t size lo hi (w.setCell p u) (.slice (some ⟨G, 0, none⟩) n c) n' C :=
  h.block fun g _ _ hg _ _ => by
    have e : g = G := by simp [Value.ownBlock] at hg; exact hg.symm
    subst e
    exact Below.heap_setCell _ _ _ g hp
theorem TextsRow.set {lo hi G : Nat} {w : World} {n c : Nat} {xs : List ByteArray} (h : TextsRow lo hi w (.slice (some ⟨G, 0, none⟩) n c) xs) {p : Addr} (hp : G ≠ p.block) (u : Value) : TextsRow lo hi (w.setCell p u) (.slice (some ⟨G, 0, none⟩) n c) xs := ⟨h.1.set hp u, h.2⟩
/-- What was made by itself. -/
theorem TextsRow.of_own {lo : Nat} {w : World} {v : Value} {xs : List ByteArray} (h : TextsOwn lo w v xs) : TextsRow lo w.heap.size w v xs := by
  obtain ⟨a, cap, hv, hc, hm, hf, hh⟩ := h
  refine ⟨⟨a, cap, hv, hc, hm, fun hn => ?_⟩, hf⟩
  obtain ⟨g, n, f, ha, hlo, hle, hr, hx⟩ := hh (fun e => hn (by rw [e]; rfl))
  exact ⟨g, n, f, ha, hlo, hr.lt, by omega, hr, fun j x _ hj => hx j x hj⟩
set_option maxHeartbeats 1000000 in
theorem toStringS_own (w : World) (v : Value) (xs : List ByteArray) (h : TextsAt w v xs) (hn : xs.length ≤ 1048576) :
    Calls Try.prog 7 #[v] w fun e w' => e = .returned (.slice (some ⟨w.heap.size, 0, none⟩) xs.length xs.length) ∧ TextsRow w.heap.size w'.heap.size w' (.slice (some ⟨w.heap.size, 0, none⟩) xs.length xs.length) xs ∧ Below w.heap.size w w' := by
  have hfit := h.fit
  obtain ⟨a, cap, rfl, hc, hm⟩ := h.form
  have HS : Hid (TextsAt w (.slice a xs.length cap) xs) := h
  have HFI : Hid (∀ (i : Nat) (x : ByteArray), xs[i]? = some x → x.size ≤ maxLen) := hfit
  clear h hfit
  unfold maxLen at hm
  have hmk := run_make_row' (P := Try.prog) 22 9 (.string ⟨#[]⟩) 16 Try.underlying22 Try.info_text rfl .i64 .i64 xs.length (by omega) (by omega)
  have HF : Hid ((w.alloc (.cells (madeCells #[.string ⟨#[]⟩] xs.length) 9)).rowIs w.heap.size 9 xs.length (fun _ => .string ⟨#[]⟩)) := World.rowIs_made w (.string ⟨#[]⟩) xs.length 9
  go_enter Try.func7, Try.ntmps7
  go_wp2
  go_loopw [4] (fun i wr => ∃ (k : Nat) (f : Nat → Value), k ≤ xs.length ∧ i = .int .i64 k ∧ wr.rowIs w.heap.size 9 xs.length f ∧ (∀ (j : Nat) (x : ByteArray), j < k → xs[j]? = some x → f j = .string x) ∧ Below w.heap.size w wr) (fun i _ => xs.length - (intOf i).toNat)
  case atStart => exact ⟨0, _, Nat.zero_le _, rfl, HF.out, fun j s hj => absurd hj (by omega), (Below.refl _ _).alloc (Nat.le_refl _) _⟩
  case round =>
    obtain ⟨k, f, hk, rfl, hrow, hall, hb⟩ := hrel
    have HA : Hid (∀ (j : Nat) (x : ByteArray), j < k → xs[j]? = some x → f j = .string x) := hall
    have HB : Hid (Below w.heap.size w wr) := hb
    have HW : Hid (wr.rowIs w.heap.size 9 xs.length f) := hrow
    clear hall hb hrow
    by_cases hlt : k < xs.length
    · obtain ⟨b, off, cap', x, hv, hbl, hx, hxf, e0⟩ := (HS.out.below HB.out).at hlt
      cases hv
      have HX : Hid (xs[k]? = some x) := hx
      have d0 := HW.out.cell (i := k) hlt
      have g0 := HW.out.frozen k
      clear hx hxf
      go_wp2
      go_roundw
      case rel =>
        refine ⟨k + 1, _, by omega, by go_num, HW.out.set k _, fun j y hj hy => ?_, HB.out.setCell (Nat.le_refl _) _⟩
        by_cases e : j = k
        · subst e
          rw [HX.out] at hy
          cases hy
          simp
        · simp only [e, if_false]
          exact HA.out j y (by omega) hy
      case measure => simp [intOf]; omega
    · obtain rfl : k = xs.length := by omega
      go_wp2
      go_ret
      exact ⟨rfl, ⟨⟨_, _, rfl, Nat.le_refl _, by unfold maxLen; omega, fun _ => ⟨w.heap.size, _, f, rfl, Nat.le_refl _, HW.out.lt, by omega, HW.out, HA.out⟩⟩, HFI.out⟩, HB.out⟩
end Go.Proofs.Ytnhbgfgbeehipaa
/-
  Contracts of copies, marks and what holds them, in one form.
-/
namespace Go.Proofs.Ytnhbgfgbeehipaa
open Go.RowKit
set_option linter.unusedVariables false
theorem toStringS_x (w : World) (v : Value) (x : List ByteArray) (h : TextsAt w v x) (hs : x.length ≤ 1048576) :
    Calls Try.prog 7 #[v] w fun e w' => ∃ v', e = .returned v' ∧ TextsRow w.heap.size w'.heap.size w' v' x ∧ Below w.heap.size w w' :=
  (toStringS_own w v x h hs).mono fun e w' ⟨h1, h2, h3⟩ => ⟨_, h1, h2, h3⟩
set_option maxHeartbeats 1000000 in
theorem markStringS_r (lo hi k : Nat) (w : World) (v : Value) (n : Nat) (C : (Nat → Value) → Prop) (h : RowOwn 9 1 lo hi w v n C) (hn : n ≤ 2000000000) (hk : k ≤ 100000000000) (hlo : lo ≤ w.heap.size) :
    Calls Try.prog 10 #[v, .int .i64 k] w fun e w' => e = .returned (.int .i64 ((k + n : Nat) : Int)) ∧ TextsRow lo hi w' v (marks k n) ∧ Wr lo hi w w' ∧ w.grownBy w' (rowOf v n) := by
  obtain ⟨a, cap, rfl, hc, hm, hh⟩ := h
  have HC : Hid (cap ≤ maxLen) := hm
  have HMF : Hid (∀ (i : Nat) (x : ByteArray), (marks k n)[i]? = some x → x.size ≤ maxLen) := fun i x hx => by
    have hi : i < n := by have := (List.getElem?_eq_some_iff.1 hx).1; rwa [marks_length] at this
    rw [marks_at hi] at hx
    cases hx
    exact markT_fit _
  unfold maxLen at hm
  by_cases h0 : n = 0
  · subst h0
    clear hh
    have HR : Hid (TextsRow lo hi w (.slice a 0 cap) (marks k 0)) := ⟨⟨a, cap, rfl, hc, HC.out, fun hh => absurd rfl hh⟩, HMF.out⟩
    go_enter Try.func10, Try.ntmps10
    go_wp2
    go_loopw [1, 5] (fun kv i wr => kv = .int .i64 k ∧ i = .int .i64 0 ∧ wr = w) (fun _ i _ => 0)
    case atStart => exact ⟨rfl, rfl, rfl⟩
    case round =>
      obtain ⟨rfl, rfl, rfl⟩ := hrel
      go_wp2
      go_ret
      exact ⟨by simp, HR.out, Wr.refl _ _ _, grown_refl _ _⟩
  · obtain ⟨g, m, f0, rfl, hg, hgh, hle, hr, _⟩ := hh h0
    have HR : Hid (w.rowIs g 9 m f0) := hr
    clear hr hh
    go_enter Try.func10, Try.ntmps10
    go_wp2
    go_loopw [1, 5] (fun kv i wr => ∃ (j : Nat) (f : Nat → Value), j ≤ n ∧ kv = .int .i64 (k + j) ∧ i = .int .i64 j ∧ wr.rowIs g 9 m f ∧ TxTo j (marks k n) f ∧ Wr lo hi w wr ∧ w.grownBy wr (some g)) (fun _ i _ => n - (intOf i).toNat)
    case atStart => exact ⟨0, f0, Nat.zero_le _, by simp, rfl, HR.out, fun j x hj => absurd hj (by omega), Wr.refl _ _ _, grown_refl _ _⟩
    case round =>
      obtain ⟨j, f, hj, rfl, rfl, hr, ha, hw, hb⟩ := hrel
      have HB : Hid (w.grownBy wr (some g)) := hb
      have HW : Hid (wr.rowIs g 9 m f) := hr
      have HA : Hid (TxTo j (marks k n) f) := ha
      have HR2 : Hid (Wr lo hi w wr) := hw
      have hlr : lo ≤ wr.heap.size := Nat.le_trans hlo hw.sz
      clear hb hr ha hw
      by_cases hlt : j < n
      · have HX : Hid ((marks k n)[j]? = some (markT (k + j))) := marks_at hlt
        have hm1 := markT_size (k + j)
        go_wp2_with fail
        refine (markText_int _ (k + j) (by push_cast; omega) (by omega) _).mono ?_
        rintro e w1 ⟨rfl, hb1⟩
        have HW1 : Hid (w1.rowIs g 9 m f) := HW.out.of_block (hb1.block g HW.out.lt)
        have HR3 : Hid (Wr lo hi w w1) := HR2.out.trans (Wr.of_below hb1 hlr)
        have HB1 : Hid (w.grownBy w1 (some g)) := grown_trans HB.out (grown_of_below _ hb1)
        have d0 := HW1.out.cell (i := j) (by omega)
        have g0 := HW1.out.frozen j
        clear hb1
        go_wp2
        go_roundw
        case rel =>
          refine ⟨j + 1, _, by omega, by go_num, by go_num, HW1.out.set j _, fun i x hi hx => ?_, HR3.out.trans (Wr.set w1 (p := ⟨g, j, none⟩) hg hgh rfl _), grown_trans HB1.out (grown_set _ _ _ _)⟩
          by_cases e : i = j
          · subst e
            rw [HX.out] at hx
            cases hx
            exact if_pos rfl
          · show (if i = j then _ else f i) = _
            rw [if_neg e]
            exact HA.out i x (by omega) hx
        case measure => simp [intOf]; omega
      · have hje : j = n := by omega
        subst hje
        go_wp2
        go_ret
        refine ⟨by push_cast; rfl, ⟨⟨_, cap, by rw [marks_length], by rw [marks_length]; exact hc, HC.out, fun _ => ⟨g, m, f, rfl, hg, hgh, by rw [marks_length]; exact hle, HW.out, by rw [marks_length]; exact HA.out⟩⟩, HMF.out⟩, HR2.out, by rw [rowOf_pos h0]; exact HB.out⟩
theorem markStringS_x (lo hi k : Nat) (w : World) (v : Value) (x : List ByteArray) (h : TextsRow lo hi w v x) (hs : x.length ≤ 1048576) (hk : k ≤ 10000000000) (hlo : hi ≤ w.heap.size) (hlh : lo ≤ hi) :
    Calls Try.prog 10 #[v, .int .i64 k] w fun e w' => e = .returned (.int .i64 ((k + x.length : Nat) : Int)) ∧ TextsRow lo hi w' v (marks k x.length) ∧ Wr lo hi w w' :=
  (markStringS_r lo hi k w v x.length _ h.1 (by omega) (by omega) (by omega)).mono fun e w' ⟨h1, h2, h3, _⟩ => ⟨h1, h2, h3⟩
theorem heldStringS_x (w : World) (v : Value) (k : Nat) (x : List ByteArray) (h : TextsAt w v (marks k x.length)) (hs : x.length ≤ 1048576) (hk : k ≤ 1000000000) :
    Calls Try.prog 11 #[v, .int .i64 k] w fun e w' => e = .returned (.int .i64 ((k + x.length : Nat) : Int)) ∧ Below w.heap.size w w' := by
  refine (heldStringS_any k x.length w v h (by omega) (by omega)).mono ?_
  rintro e w' ⟨rfl, hb⟩
  exact ⟨by push_cast; rfl, hb⟩
end Go.Proofs.Ytnhbgfgbeehipaa
/-
  Small words for the walks of exact laws.
-/
namespace Go.Proofs.Ytnhbgfgbeehipaa
open Go.RowKit
set_option linter.unusedVariables false
/-- A number that is called by a letter. -/
theorem cK {P : Program} {f : FuncId} {args : Array Value} {w : World} {n K : Nat} {Q : World → Prop} (h : Calls P f args w fun e w' => e = .returned (.int .i64 (n : Int)) ∧ Q w') (hn : n = K) : Calls P f args w fun e w' => e = .returned (.int .i64 (K : Int)) ∧ Q w' := by
  subst hn
  exact h
theorem wr_cell {lo hi : Nat} {w w' : World} (h : Wr lo hi w w') {b : Nat} (i : Nat) (hp : b < lo ∨ hi ≤ b) (hlt : b < w.heap.size) : w'.cell? ⟨b, i, none⟩ = w.cell? ⟨b, i, none⟩ := by
  refine World.cell?_of_block (a := ⟨b, i, none⟩) ?_
  rcases hp with hp | hp
  · exact h.1.block b hp
  · exact h.2.2.1 b hp hlt
end Go.Proofs.Ytnhbgfgbeehipaa
/-
  Arguments of laws, opened: slices of affixes, of texts; an entry.
-/
namespace Go.Proofs.Ytnhbgfgbeehipaa
open Go.ChangeShapes Go.WideShapes Go.ChangeAt Go.RowKit
set_option linter.unusedVariables false
set_option maxRecDepth 100000 in
theorem open_textsV {H : Type} {enc : TypeId × Value → H} {w : World} {r : Reach} {b0 base : Nat} {spare : Nat → Bool} {held : Bool} {v : Value} {d : DataW H} {p : List MemPlace}
    (hv : Value.okWide Try.prog w r b0 22 v) (h : DataW.Trod enc Try.prog w base spare held 22 v d p) : ∃ xs, TextsAt w v xs := by
  obtain ⟨a0, len0, cap0, rfl⟩ := okWide_slice Try.underlying22 hv
  obtain ⟨fuel, hf⟩ := h
  exact open_texts (by simpa [Value.cells] using hf)
end Go.Proofs.Ytnhbgfgbeehipaa
