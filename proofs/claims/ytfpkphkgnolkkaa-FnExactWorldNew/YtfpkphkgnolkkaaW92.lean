/-
  Slices of texts marked and held: markStringS, heldStringS.
-/
import Derived.Test.YtfpkphkgnolkkaaW91
namespace Go.Proofs.Ytfpkphkgnolkkaa
open Go.RowKit
set_option linter.unusedVariables false
/-- A slice of texts that may be written, from block lo on. -/
def TextsOwn (lo : Nat) (w : World) (v : Value) (xs : List ByteArray) : Prop :=
  ∃ a cap, v = .slice a xs.length cap ∧ xs.length ≤ cap ∧ cap ≤ maxLen ∧ (∀ (i : Nat) (x : ByteArray), xs[i]? = some x → x.size ≤ maxLen) ∧
    (xs ≠ [] → ∃ g n f, a = some ⟨g, 0, none⟩ ∧ lo ≤ g ∧ xs.length ≤ n ∧ w.rowIs g 9 n f ∧ ∀ (i : Nat) (x : ByteArray), xs[i]? = some x → f i = .string x)
theorem TextsOwn.at {lo : Nat} {w : World} {v : Value} {xs : List ByteArray} (h : TextsOwn lo w v xs) : TextsAt w v xs := by
  obtain ⟨a, cap, hv, hc, hm, hf, hh⟩ := h
  refine ⟨a, cap, hv, hc, Nat.le_trans hc hm, hf, fun hn => ?_⟩
  obtain ⟨g, n, f, ha, _, hle, hr, hx⟩ := hh hn
  refine ⟨g, 0, ha, hr.lt, fun i x hi => ?_⟩
  have hlt : i < xs.length := (List.getElem?_eq_some_iff.1 hi).1
  rw [Nat.zero_add, hr.cell (by omega), hx i x hi]
theorem TextsOwn.below {lo : Nat} {w w' : World} {v : Value} {xs : List ByteArray} (h : TextsOwn lo w v xs) (hb : Below w.heap.size w w') : TextsOwn lo w' v xs := by
  obtain ⟨a, cap, hv, hc, hm, hf, hh⟩ := h
  refine ⟨a, cap, hv, hc, hm, hf, fun hn => ?_⟩
  obtain ⟨g, n, f, ha, hlo, hle, hr, hx⟩ := hh hn
  exact ⟨g, n, f, ha, hlo, hle, hr.of_block (hb.block g hr.lt), hx⟩
/-- So many marks. -/
def marks (k n : Nat) : List ByteArray := (List.range n).map fun i => markT (k + i)
theorem marks_length (k n : Nat) : (marks k n).length = n := by simp [marks]
theorem marks_at {k n i : Nat} (h : i < n) : (marks k n)[i]? = some (markT (k + i)) := by simp [marks, h]
theorem markT_size (n : Nat) : (markT n).size ≤ 21 := by
  unfold markT
  split
  · decide
  · rw [size_toArr, List.length_cons]
    have := digT_length 20 n []
    simp at this
    omega
set_option maxHeartbeats 2000000 in
theorem markStringS_any (lo k : Nat) (w : World) (v : Value) (xs : List ByteArray) (h : TextsOwn lo w v xs) (hk : k ≤ 2000000000) (hlen : xs.length ≤ 2000000000) (hlo : lo ≤ w.heap.size) :
    Calls Try.prog 18 #[v, .int .i64 k] w fun e w' => e = .returned (.int .i64 (k + xs.length)) ∧ TextsOwn lo w' v (marks k xs.length) ∧ Below lo w w' := by
  obtain ⟨a, cap, rfl, hc, hm, hf, hh⟩ := h
  have HC : Hid (cap ≤ maxLen) := hm
  unfold maxLen at hm
  clear hf
  by_cases hn : xs = []
  · subst hn
    clear hh
    have HR : Hid (TextsOwn lo w (.slice a (List.length ([] : List ByteArray)) cap) (marks k (List.length ([] : List ByteArray)))) := ⟨a, cap, rfl, hc, HC.out, fun i x hx => by simp [marks] at hx, fun hh => absurd rfl hh⟩
    simp only [List.length_nil] at *
    go_enter Try.func18, Try.ntmps18
    go_wp2
    go_loopw [1, 5] (fun kv i wr => kv = .int .i64 k ∧ i = .int .i64 0 ∧ wr = w) (fun _ i _ => 0)
    case atStart => exact ⟨rfl, rfl, rfl⟩
    case round =>
      obtain ⟨rfl, rfl, rfl⟩ := hrel
      go_wp2
      go_ret
      exact ⟨by simp, HR.out, Below.refl _ _⟩
  · obtain ⟨g, n, f0, rfl, hg, hle, hr, _⟩ := hh hn
    have hgl := hr.lt
    have HR : Hid (w.rowIs g 9 n f0) := hr
    have HN : Hid (xs ≠ []) := hn
    clear hr hn hh
    go_enter Try.func18, Try.ntmps18
    go_wp2
    go_loopw [1, 5] (fun kv i wr => ∃ (j : Nat) (f : Nat → Value), j ≤ xs.length ∧ kv = .int .i64 (k + j) ∧ i = .int .i64 j ∧ wr.rowIs g 9 n f ∧ (∀ m : Nat, m < j → f m = .string (markT (k + m))) ∧ w.heap.size ≤ wr.heap.size ∧ Below lo w wr) (fun _ i _ => xs.length - (intOf i).toNat)
    case atStart => exact ⟨0, f0, Nat.zero_le _, by simp, rfl, HR.out, fun m hm => absurd hm (by omega), Nat.le_refl _, Below.refl _ _⟩
    case round =>
      obtain ⟨j, f, hj, rfl, rfl, hr, ha, hsz, hb⟩ := hrel
      have HB : Hid (Below lo w wr) := hb
      have HW : Hid (wr.rowIs g 9 n f) := hr
      have HA : Hid (∀ m : Nat, m < j → f m = .string (markT (k + m))) := ha
      clear hb hr ha
      by_cases hlt : j < xs.length
      · have hmk := markText_any (k + j) (by omega)
        rw [Int.natCast_add] at hmk
        go_wp2_with fail
        refine (hmk _).mono ?_
        rintro e w' ⟨rfl, hb'⟩
        have HW' : Hid (w'.rowIs g 9 n f) := HW.out.of_block (hb'.block g HW.out.lt)
        have HB' : Hid (Below lo w w') := HB.out.trans (hb'.mono (by omega))
        have HZ : Hid (w.heap.size ≤ w'.heap.size) := Nat.le_trans hsz hb'.size
        have d1 := HW'.out.cell (i := j) (by omega)
        have g1 := HW'.out.frozen j
        have hms := markT_size (k + j)
        clear hb' hmk
        go_wp2
        go_roundw
        case rel =>
          refine ⟨j + 1, _, by omega, by go_num, by go_num, HW'.out.set j _, fun m hm => ?_, by simpa [World.setCell] using HZ.out, HB'.out.setCell hg _⟩
          by_cases e : m = j
          · subst e; exact if_pos rfl
          · rw [if_neg e]; exact HA.out m (by omega)
        case measure => simp [intOf]; omega
      · have hje : j = xs.length := by omega
        subst hje
        go_wp2
        go_ret
        refine ⟨rfl, ⟨_, cap, by rw [marks_length], by rw [marks_length]; exact hc, HC.out, fun i x hx => ?_, fun _ => ⟨g, n, f, rfl, hg, by rw [marks_length]; exact hle, HW.out, fun i x hx => ?_⟩⟩, HB.out⟩
        · have hi : i < xs.length := by have := (List.getElem?_eq_some_iff.1 hx).1; rwa [marks_length] at this
          rw [marks_at hi] at hx
          cases hx
          have := markT_size (k + i)
          unfold maxLen
          omega
        · have hi : i < xs.length := by have := (List.getElem?_eq_some_iff.1 hx).1; rwa [marks_length] at this
          rw [marks_at hi] at hx
          cases hx
          exact HA.out i hi
set_option maxHeartbeats 2000000 in
theorem heldStringS_any (k n : Nat) (w : World) (v : Value) (h : TextsAt w v (marks k n)) (hk : k ≤ 2000000000) (hlen : n ≤ 2000000000) :
    Calls Try.prog 21 #[v, .int .i64 k] w fun e w' => e = .returned (.int .i64 (k + n)) ∧ Below w.heap.size w w' := by
  obtain ⟨a, cap, rfl, hc, hm⟩ := h.form
  rw [marks_length] at hc hm h ⊢
  have HS : Hid (TextsAt w (.slice a n cap) (marks k n)) := h
  clear h
  unfold maxLen at hm
  go_enter Try.func21, Try.ntmps21
  go_wp2
  go_loopw [1, 5] (fun kv i wr => ∃ (j : Nat), j ≤ n ∧ kv = .int .i64 (k + j) ∧ i = .int .i64 j ∧ Below w.heap.size w wr) (fun _ i _ => n - (intOf i).toNat)
  case atStart => exact ⟨0, Nat.zero_le _, by simp, rfl, Below.refl _ _⟩
  case round =>
    obtain ⟨j, hj, rfl, rfl, hb⟩ := hrel
    have HB : Hid (Below w.heap.size w wr) := hb
    clear hb
    by_cases hlt : j < n
    · obtain ⟨b, off, cap1, s, hv, hbl, hs, _, c1⟩ := (HS.out.below HB.out).at (k := j) (by rw [marks_length]; exact hlt)
      rw [marks_length] at hv
      cases hv
      rw [marks_at hlt] at hs
      cases hs
      have hms := markT_size (k + j)
      have hmk := markText_any (k + j) (by omega)
      rw [Int.natCast_add] at hmk
      have HK : Hid (∀ w : World, Calls Try.prog 27 #[.int .i64 ((k : Int) + (j : Int))] w fun e w' => e = .returned (.string (markT (k + j))) ∧ Below w.heap.size w w') := hmk
      clear hmk
      go_wp2_with fail
      go_region_with (go_at_call 27; refine (HK.out _).mono ?_; rintro e w' ⟨rfl, hb'⟩; have HB' : Hid (Below w.heap.size w w') := HB.out.drew.trans (hb'.mono HB.out.size); have c2 := (hb'.cell (p := ⟨b, off + j, none⟩) hbl).trans c1; clear hb')
      all_goals
        go_wp2
        go_roundw
        case rel => exact ⟨j + 1, by omega, by go_num, by go_num, HB'.out⟩
        case measure => simp [intOf]; omega
    · have hje : j = n := by omega
      subst hje
      go_wp2
      go_ret
      exact ⟨rfl, HB.out⟩
